/-
  GroveRuns answers true for any calls and any Id that is looked at, and changes nothing that was there: whatever is put and dropped, what stands where, and which Id is the next, is as the page says; so is what became other. For every input, without a condition.
-/
import Derived.Test.YtghboanmiggcnaaGroveIds
import Derived.Test.YtghboanmiggcnaaNodeTotal
import Derived.Test.YtghboanmiggcnaaNodeRefNode
import Derived.Test.YtghboanmiggcnaaNodeSame
import Derived.Test.YtghboanmiggcnaaOwnRow
import Derived.Test.YtghboanmiggcnaaSlices
import Derived.Deep.QuietTactic
import Derived.BigQuiet
import Derived.LoopTactic
import Derived.WalkKit
import Derived.Test.YtghboanmiggcnaaRegion
import Derived.Deep.MidRow
import Derived.Test.YtghboanmiggcnaaSole
import Derived.Test.YtghboanmiggcnaaLift
import Derived.Test.YtghboanmiggcnaaOct
import Derived.SizedLaws
import Derived.Test.YtghboanmiggcnaaNodeDef
import Derived.Laws.IdiomArrays
import Derived.Test.YtghboanmiggcnaaOpen
import Derived.Deep.Slices

/-
  Layer 22: nodes as data: what they hold, where their points lie; a grove's nodes by number; arrays of nodes and of Booleans.
-/



namespace Go.Proofs.Ytghboanmiggcnaa
open Go.RowKit Go.Maps
set_option linter.unusedVariables false
set_option linter.unusedSimpArgs false

/-- A node: what it holds, and where its points lie. -/
structure NdX where
  lf : Bool
  m : Nat
  f : Nat → Pt
  nx : Int
  k : Nat → Int
  c : Nat → Int
  q : Option Addr
  cap : Nat
abbrev NdX.cells (x : NdX) : List Value := ndl x.lf (.slice x.q x.m x.cap) x.nx (x.k 0) (x.k 1) (x.k 2) (x.k 3) (x.c 0) (x.c 1) (x.c 2) (x.c 3)
abbrev NdX.val (x : NdX) : Value := .agg x.cells.toArray
def NdX.zero : NdX := ⟨false, 0, fun _ => ⟨0, 0, 0, ByteArray.empty⟩, 0, fun _ => 0, fun _ => 0, none, 0⟩
structure NdX.lies (x : NdX) (w : World) : Prop where
  cap : x.m ≤ x.cap
  max : x.cap ≤ maxLen
  row : RowP w x.q 4 x.m (fun i => pcells (x.f i))
def NdX.good (x : NdX) : Bool := nodeB x.lf x.m x.f x.nx x.k x.c
def NdX.same (x y : NdX) : Bool := nSame x.lf y.lf x.m y.m x.f y.f x.nx y.nx x.k y.k x.c y.c
/-- The same one, in another place. -/
def NdX.to (x : NdX) (q : Option Addr) (cap : Nat) : NdX := ⟨x.lf, x.m, x.f, x.nx, x.k, x.c, q, cap⟩
theorem NdX.same_to (x y : NdX) (q q' : Option Addr) (c c' : Nat) : (x.to q c).same (y.to q' c') = x.same y := rfl
theorem NdX.same_self (x : NdX) (q : Option Addr) (c : Nat) : (x.to q c).same x = true := by
  unfold NdX.same NdX.to nSame
  simp [eqA_self, allP_self x.f x.f x.m (fun _ _ => rfl)]
theorem NdX.zero_lies (w : World) : NdX.zero.lies w := ⟨Nat.le_refl _, Nat.zero_le _, .inl rfl⟩
theorem NdX.lies.more {x : NdX} {w w' : World} (h : x.lies w) (hb : Below w.heap.size w w') : x.lies w' := ⟨h.cap, h.max, h.row.more hb⟩
theorem row_ne_map {w : World} {q : Option Addr} {m : Nat} {f : Nat → Pt} (R : RowP w q 4 m (fun i => pcells (f i))) {b : Nat} {es clock : _} (hb : w.heap[b]? = some (.map es clock)) : ∀ b' o, q = some ⟨b', o, none⟩ → m ≠ 0 → b' ≠ b := by
  intro b' o e hm he
  rcases R with h | ⟨b2, o2, e2, R⟩
  · exact hm h
  · rw [e] at e2
    cases e2
    subst he
    have := R.at0 (i := 0) (by omega) (v := .int .i64 (f 0).id) rfl
    simp [World.cell?, hb] at this
theorem NdX.lies.apart {S : Nat → Prop} {x : NdX} {w w' : World} (h : x.lies w) (hs : Sole S w w') (hn : ∀ b o, x.q = some ⟨b, o, none⟩ → x.m ≠ 0 → ¬ S b) : x.lies w' :=
  ⟨h.cap, h.max, by
    rcases h.row with h0 | ⟨b, o, e, R⟩
    · exact .inl h0
    · by_cases h0 : x.m = 0
      · exact .inl h0
      · exact .inr ⟨b, o, e, Nat.lt_of_lt_of_le R.lt hs.size, fun i hi j v hv => (hs.cell R.lt (hn b o e h0)).trans (R.cell i hi j v hv)⟩⟩

/-- A grove's nodes, by number. -/
structure GroveN (Ar : Nat → Prop) (w : World) (p b n : Nat) (D : DataW Value) (X : Nat → NdX) (H : Nat → Bool) : Prop where
  m : GroveM w p b n D
  im : IsMap D
  has : ∀ z : Int, (Lit.int .i64 z).wf = true → Maps.has D (.int .i64 z) = (decide (1 ≤ z ∧ z < 256) && H z.toNat)
  vat : ∀ i : Nat, 1 ≤ i → i < 256 → H i = true → D.atKey (.int .i64 (i : Int)) (.held gnode0) = .held (X i).val
  lies : ∀ i, 1 ≤ i → i < 256 → H i = true → (X i).lies w
  ap : ∀ i, 1 ≤ i → i < 256 → H i = true → ∀ b' o, (X i).q = some ⟨b', o, none⟩ → (X i).m ≠ 0 → ¬ Ar b'
  np : ¬ Ar p
  nb : ¬ Ar b
section
variable {Ar : Nat → Prop} {w w' : World} {p b n : Nat} {D : DataW Value} {X : Nat → NdX} {H : Nat → Bool}
theorem GroveN.isMap (h : GroveN Ar w p b n D X H) : ∃ es c, w.heap[b]? = some (.map es c) := by
  obtain ⟨es, clock, hb, r⟩ := h.m.own
  exact ⟨es, clock, hb⟩
theorem GroveN.kept {S : Nat → Prop} (h : GroveN Ar w p b n D X H) (hs : Sole S w w') (hS : ∀ k, S k → Ar k ∨ (k ≠ b ∧ k ≠ p ∧ ∃ es c, w.heap[k]? = some (.map es c))) : GroveN Ar w' p b n D X H :=
  ⟨h.m.kept hs (fun hk => (hS _ hk).elim h.np fun q => q.2.1 rfl) (fun hk => (hS _ hk).elim h.nb fun q => q.1 rfl), h.im, h.has, h.vat,
    fun i h1 h2 h3 => (h.lies i h1 h2 h3).apart hs fun b' o e hm hk => (hS _ hk).elim (h.ap i h1 h2 h3 b' o e hm) fun q => by
      obtain ⟨_, _, es, c, hc⟩ := q
      exact row_ne_map (h.lies i h1 h2 h3).row hc b' o e hm rfl, h.ap, h.np, h.nb⟩
theorem GroveN.more (h : GroveN Ar w p b n D X H) (hb : Below w.heap.size w w') : GroveN Ar w' p b n D X H :=
  h.kept (Sole.made (S := fun _ => False) hb) (fun _ hk => hk.elim)
theorem GroveN.drew (h : GroveN Ar w p b n D X H) : GroveN Ar w.drew p b n D X H := h.more (Below.refl _ _).drew
/-- What a look at any number finds. -/
theorem GroveN.look (h : GroveN Ar w p b n D X H) (z : Int) (hw : (Lit.int .i64 z).wf = true) : D.atKey (.int .i64 z) (.held gnode0) = .held (if decide (1 ≤ z ∧ z < 256) && H z.toNat then X z.toNat else NdX.zero).val := by
  have hh := h.has z hw
  cases hc : decide (1 ≤ z ∧ z < 256) && H z.toNat with
  | false =>
    rw [hc] at hh
    exact atKey_of_not_has hh _
  | true =>
    simp only [Bool.and_eq_true, decide_eq_true_eq] at hc
    have := h.vat z.toNat (by omega) (by omega) hc.2
    rw [Int.toNat_of_nonneg (by omega)] at this
    exact this
theorem GroveN.finds (h : GroveN Ar w p b n D X H) (z : Int) : (if decide (1 ≤ z ∧ z < 256) && H z.toNat then X z.toNat else NdX.zero).lies w := by
  split
  · rename_i hc
    simp only [Bool.and_eq_true, decide_eq_true_eq] at hc
    exact h.lies _ (by omega) (by omega) hc.2
  · exact NdX.zero_lies w
end

/-- An array of 256 nodes, cell by cell. -/
structure NdsC (C : Array Value) (A : Nat → NdX) : Prop where
  size : C.size = 2816
  get : ∀ i, i < 256 → ∀ j v, (A i).cells[j]? = some v → C[i * 11 + j]? = some v
/-- An array of 256 Booleans. -/
structure BlsC (C : Array Value) (I : Nat → Bool) : Prop where
  size : C.size = 256
  get : ∀ i, i < 256 → C[i]? = some (.bool (I i))
theorem NdsC.set {C : Array Value} {A : Nat → NdX} (h : NdsC C A) (d : Nat) (hd : d < 256) (x : NdX) : NdsC (fillC C (d * 11) x.cells) (fun i => if i = d then x else A i) := by
  have hl : x.cells.length = 11 := rfl
  have hsz : (fillC C (d * 11) x.cells).size = C.size := by
    have : ∀ (vs : List Value) (o : Nat) (c : Array Value), (fillC c o vs).size = c.size := by
      intro vs
      induction vs with
      | nil => intro o c; rfl
      | cons v vs ih => intro o c; simp only [fillC]; rw [ih]; simp
    exact this _ _ _
  refine ⟨hsz.trans h.size, fun i hi j v hv => ?_⟩
  rw [fillC_get _ _ _ (by rw [hl, h.size]; omega), hl]
  have hj : j < 11 := (List.getElem?_eq_some_iff.1 hv).1
  by_cases he : i = d
  · subst he
    rw [if_pos ⟨by omega, by omega⟩, show i * 11 + j - i * 11 = j by omega]
    simpa using hv
  · rw [if_neg (fun hh => he (by omega))]
    simp only [if_neg he] at hv
    exact h.get i hi j v hv
theorem BlsC.set {C : Array Value} {I : Nat → Bool} (h : BlsC C I) (d : Nat) (hd : d < 256) (v : Bool) : BlsC (C.setIfInBounds d (.bool v)) (fun i => if i = d then v else I i) := by
  refine ⟨by rw [Array.size_setIfInBounds]; exact h.size, fun i hi => ?_⟩
  rw [Array.getElem?_setIfInBounds]
  by_cases he : i = d
  · subst he; simp [h.size, hi]
  · rw [if_neg (fun e => he e.symm), if_neg he]; exact h.get i hi
theorem NdsC.range {C : Array Value} {A : Nat → NdX} (h : NdsC C A) {w : World} {a : Nat} (B : Blk w a C) {i : Nat} (hi : i < 256) : w.rangeAt a (i * 11) (A i).cells := fun j v hv => (B.cell _).trans (h.get i hi j v hv)
theorem BlsC.cell {C : Array Value} {I : Nat → Bool} (h : BlsC C I) {w : World} {a : Nat} (B : Blk w a C) {i : Nat} (hi : i < 256) : w.cell? ⟨a, i, none⟩ = some (.bool (I i)) := (B.cell _).trans (h.get i hi)
theorem NdsC.one {C : Array Value} {A : Nat → NdX} (h : NdsC C A) : C.all (·.oneCell') = true := by
  rw [Array.all_eq_true]
  intro i hi
  have h1 : i / 11 < 256 := by have := h.size; omega
  have h2 : i % 11 < 11 := Nat.mod_lt _ (by decide)
  have hl : (A (i / 11)).cells.length = 11 := rfl
  have h3 := h.get (i / 11) h1 (i % 11) _ (List.getElem?_eq_getElem (by rw [hl]; exact h2))
  rw [show i / 11 * 11 + i % 11 = i by omega, Array.getElem?_eq_getElem hi, Option.some.injEq] at h3
  rw [h3]
  have : ∀ v ∈ (A (i / 11)).cells, v.oneCell' = true := by
    intro v hv
    simp only [List.mem_cons, List.not_mem_nil, or_false] at hv
    rcases hv with rfl | rfl | rfl | rfl | rfl | rfl | rfl | rfl | rfl | rfl | rfl <;> rfl
  exact this _ (List.getElem_mem _)
theorem BlsC.one {C : Array Value} {I : Nat → Bool} (h : BlsC C I) : C.all (·.oneCell') = true := by
  rw [Array.all_eq_true]
  intro i hi
  have h3 := h.get i (by have := h.size; omega)
  rw [Array.getElem?_eq_getElem hi, Option.some.injEq] at h3
  rw [h3]
  rfl
theorem bls_rep : BlsC (Array.replicate 256 (.bool false)) (fun _ => false) := ⟨by simp, fun i hi => by simp [hi]⟩
end Go.Proofs.Ytghboanmiggcnaa

/-
  Layer 22: a clone, changed, changes nothing.
-/


namespace Go.Proofs.Ytghboanmiggcnaa
open Go.RowKit Go.Maps
set_option linter.unusedVariables false
set_option linter.unusedSimpArgs false

theorem own_any {w : World} {base : Nat} {e : TypeId} {size : Nat} {v : Value} {n : Nat} {xs : List Value} (h : w.ownsRow base e size v n xs) (hn : n ≠ 0) : ∃ g cap cur, v = .slice (some ⟨g, 0, none⟩) n cap ∧ base ≤ g ∧ n ≤ cap ∧ Blk w g cur ∧ cur.size = cap * size := by
  rcases h.2 with ⟨_, h0⟩ | ⟨g, cap, cur, rfl, hb, hg, h1, h2, h3, h4⟩
  · exact absurd h0 hn
  · exact ⟨g, cap, cur, rfl, hb, h1, ⟨(h.lt g rfl).2, fun o => by simp [World.cell?, hg], fun o => by simp [World.frozen?, hg]⟩, by simpa using h3⟩
theorem row_apart9 {w w' : World} {p : Option Addr} {sz n : Nat} {f : Nat → List Value} {b2 : Nat} (h : RowP w p sz n f) (hs : Sole (fun k => k = b2) w w') (hn : ∀ b o, p = some ⟨b, o, none⟩ → n ≠ 0 → b ≠ b2) : RowP w' p sz n f := by
  rcases h with h | ⟨b, o, e, R⟩
  · exact .inl h
  · by_cases h0 : n = 0
    · exact .inl h0
    · exact .inr ⟨b, o, e, Nat.lt_of_lt_of_le R.lt hs.size, fun i hi j v hv => (hs.cell R.lt (hn b o e h0)).trans (R.cell i hi j v hv)⟩
theorem meas_up9 (N k : Nat) (h : k < N) (z : Int) (hz : z = ((k + 1 : Nat) : Int)) : N - (intOf (.int .i64 z)).toNat < N - (intOf (.int .i64 (k : Int))).toNat := by
  subst hz
  show N - (((k + 1 : Nat) : Int)).toNat < N - ((k : Int)).toNat
  rw [Int.toNat_natCast, Int.toNat_natCast]
  omega
theorem nSame_one (lf : Bool) (n : Nat) (f : Nat → Pt) (nx : Int) (k c : Nat → Int) : nSame lf lf n n f f nx nx k k c c = true := by
  unfold nSame
  simp [eqA_self, allP_self f f n (fun _ _ => rfl)]
theorem gnew_m (w : World) : Calls Try.prog 6 #[] w fun e w' => ∃ g b, e = .returned (.pointer (some ⟨g, 0, none⟩)) ∧ w.heap.size ≤ g ∧ w.heap.size ≤ b ∧ GroveM w' g b 0 (.map []) ∧ Below w.heap.size w w' :=
  (gnew w).mono fun e w' ⟨he, hw⟩ => by
    have b1 := below_one w (.map #[] 0)
    have b2 := below_one (w.alloc (.map #[] 0)) (.cells #[.map (some w.heap.size)] 73)
    have M1 := World.ownsMap_made (H := Value) w Try.prog 3 heldR
    have hs : (w.alloc (.map #[] 0)).heap.size = w.heap.size + 1 := by simp
    refine ⟨w.heap.size + 1, w.heap.size, he, by omega, Nat.le_refl _, ?_, ?_⟩
    · rw [hw]
      refine ⟨?_, gmap_sole M1 (Sole.made (S := fun _ => False) b2) (fun h => h), by omega⟩
      have := Blk.new (w.alloc (.map #[] 0)) #[.map (some w.heap.size)] 73
      rwa [hs] at this
    · rw [hw]
      exact below2 b1 b2 b1.size
/-- A second Put at one and the same Id. -/
theorem gput_again (g b : Nat) (D : DataW Value) (w : World) (G : GroveM w g b 1 D) (hI : IsMap D) (id : Int) (hw : (Lit.int .i64 id).wf = true) (hD : ∀ z : Int, Maps.has D (.int .i64 z) = decide (z = id)) (lf : Bool) (q : Option Addr) (m cap : Nat) (f : Nat → Pt) (hf : ∀ i, i < m → (f i).ok) (nx : Int) (k c : Nat → Int) (h1 : m ≤ cap) (h2 : cap ≤ maxLen)
    (HR : RowP w q 4 m (fun i => pcells (f i))) :
    Calls Try.prog 8 #[.pointer (some ⟨g, 0, none⟩), .int .i64 id, ndval lf (.slice q m cap) nx k c] w fun e w' => ∃ (x : Int) (n' : Nat) (D' : DataW Value), e = .returned (.int .i64 x) ∧ n' ≤ 2 ∧ GroveM w' g b n' D' ∧ Sole (fun k => k = b) w w' ∧ ∀ z : Int, Maps.has D' (.int .i64 z) = decide (z = id) := by
  by_cases h : nodeB lf m f nx k c = true ∧ (1 ≤ id ∧ id < 256)
  · refine (gput_ok g b 1 D w G (by omega) id h.2.1 h.2.2 lf q m cap f hf nx k c h1 h2 HR h.1).mono ?_
    rintro e w' ⟨rfl, q', c', _, G', S⟩
    refine ⟨0, 2, _, rfl, Nat.le_refl _, G', S, fun z => ?_⟩
    by_cases hz : z = id
    · subst hz
      rw [has_put_same hI (glawK.key (keyOf_int_mk (P := Try.prog) Try.underlying3 hw))]
      simp
    · rw [has_put_other (fun e => hz (by cases e; rfl)), hD z]
  · refine (gput_bad g b 1 D w G id lf q m cap f hf nx k c h1 h2 HR ?_).mono ?_
    · cases hB : nodeB lf m f nx k c with
      | false => exact .inl rfl
      | true => exact .inr fun h' => h ⟨hB, h'⟩
    · rintro e w' ⟨⟨x, rfl, _⟩, hb⟩
      exact ⟨x, 1, D, rfl, by omega, G.more hb, Sole.made hb, hD⟩

end Go.Proofs.Ytghboanmiggcnaa

/-
  Package grove: Put, Drop, Clone, New, by number, of any grove.
-/


namespace Go.Proofs.Ytghboanmiggcnaa
open Go.RowKit Go.Maps Go.Shelf
set_option linter.unusedVariables false
set_option linter.unusedSimpArgs false

theorem wf_id {z : Int} (h : 0 ≤ z) (h1 : z ≤ 256) : (Lit.int .i64 z).wf = true := by rw [show z = wrap64 z by unfold wrap64; omega]; exact wrap64_wf _
theorem gkey {z : Int} (hw : (Lit.int .i64 z).wf = true) : WideAt.IsKeyLit (.int .i64 z) := glawK.key (keyOf_int_mk (P := Try.prog) Try.underlying3 hw)
theorem lit_ne {a b : Int} (h : a ≠ b) : Lit.int .i64 a ≠ Lit.int .i64 b := fun e => h (by cases e; rfl)

theorem gputN {Ar : Nat → Prop} {w : World} {g b n : Nat} {D : DataW Value} {X : Nat → NdX} {H : Nat → Bool} (G : GroveN Ar w g b n D X H) (hn : n < 1000000) (hAr : ∀ k, Ar k → k < w.heap.size) (id : Int) (i0 : 1 ≤ id) (i1 : id < 256) (x : NdX) (hx : x.lies w) (hf : ∀ i, i < x.m → (x.f i).ok) (hB : x.good = true) :
    Calls Try.prog 8 #[.pointer (some ⟨g, 0, none⟩), .int .i64 id, x.val] w fun e w' => e = .returned (.int .i64 0) ∧ ∃ q' c' D', GroveN Ar w' g b (n + 1) D' (fun i => if i = id.toNat then x.to q' c' else X i) (fun i => if i = id.toNat then true else H i) ∧ Sole (fun k => k = b) w w' := by
  refine (gput_ok g b n D w G.m hn id i0 i1 x.lf x.q x.m x.cap x.f hf x.nx x.k x.c hx.cap hx.max hx.row hB).mono ?_
  rintro e w' ⟨rfl, q', c', O, G', S⟩
  have hwid := wf_id (show 0 ≤ id by omega) (by omega)
  have hkid := gkey hwid
  have hb := G.isMap
  have R := OwnP.row O
  refine ⟨rfl, q', c', _, ⟨G', G.im.put _ _, fun z hw => ?_, fun i h1 h2 hh => ?_, fun i h1 h2 hh => ?_, fun i h1 h2 hh b' o e hm hk => ?_, G.np, G.nb⟩, S⟩
  · by_cases hz : z = id
    · subst hz
      rw [has_put_same G.im hkid]
      simp [i0, i1]
    · rw [has_put_other (lit_ne hz), G.has z hw]
      by_cases hr : 1 ≤ z ∧ z < 256
      · rw [if_neg (by omega)]
      · rw [decide_eq_false hr]; rfl
  · by_cases hi : i = id.toNat
    · simp only [if_pos hi]
      rw [show ((i : Nat) : Int) = id by omega]
      exact atKey_put_same G.im hkid _ _
    · simp only [if_neg hi] at hh ⊢
      rw [atKey_put_other (lit_ne (by omega))]
      exact G.vat i h1 h2 hh
  · by_cases hi : i = id.toNat
    · simp only [if_pos hi]
      exact ⟨R.1, R.2.1, R.2.2⟩
    · simp only [if_neg hi] at hh ⊢
      exact (G.lies i h1 h2 hh).apart S fun b' o e hm hk => by
        obtain ⟨es, c, hc⟩ := hb
        exact row_ne_map (G.lies i h1 h2 hh).row hc b' o e hm hk
  · by_cases hi : i = id.toNat
    · simp only [if_pos hi] at e hm
      have := (RowOwn.within O b' (by
        have e' : q' = some ⟨b', o, none⟩ := e
        rw [e']
        rcases O.2 with ⟨e2, _⟩ | ⟨g', cp, cur, e2, hb', _⟩
        · rw [e'] at e2; cases e2
        · rw [e'] at e2
          simp only [Value.slice.injEq, Option.some.injEq, Addr.mk.injEq] at e2
          obtain ⟨⟨rfl, rfl, _⟩, _⟩ := e2
          rfl)).1
      have := hAr _ hk
      omega
    · simp only [if_neg hi] at hh e hm
      exact G.ap i h1 h2 hh b' o e hm hk

set_option maxRecDepth 100000 in
set_option maxHeartbeats 4000000 in
theorem gputN_bad (g b n : Nat) (D : DataW Value) (w : World) (G : GroveM w g b n D) (id : Int) (lf : Bool) (q : Option Addr) (m cap : Nat) (f : Nat → Pt) (hf : ∀ i, i < m → (f i).ok) (nx : Int) (k c : Nat → Int) (h1 : m ≤ cap) (h2 : cap ≤ maxLen)
    (HR : RowP w q 4 m (fun i => pcells (f i))) (hB : nodeB lf m f nx k c = false ∨ ¬ (1 ≤ id ∧ id < 256)) :
    Calls Try.prog 8 #[.pointer (some ⟨g, 0, none⟩), .int .i64 id, ndval lf (.slice q m cap) nx k c] w fun e w' => e = .returned (.int .i64 (if nodeB lf m f nx k c then 4 else 9)) ∧ Below w.heap.size w w' := by
  have hb0 := below_one w (.cells (ndl lf (.slice q m cap) nx (k 0) (k 1) (k 2) (k 3) (c 0) (c 1) (c 2) (c 3)).toArray 29)
  have BX := Blk.new w (ndl lf (.slice q m cap) nx (k 0) (k 1) (k 2) (k 3) (c 0) (c 1) (c 2) (c 3)).toArray 29
  have KM := hid (gmadeOf g (some b) _ (G.blk.more hb0))
  have KC := ncheck_any lf q m cap f hf nx k c h1 h2 _ (HR.more hb0)
  dsimp only [ndval] at KC ⊢
  replace KC := hid KC
  have HBX := hid BX
  have D0 := hid hb0
  clear HR hf h1 h2 G hb0 BX
  generalize nodeB lf m f nx k c = B at *
  generalize k 0 = k0 at *
  generalize k 1 = k1 at *
  generalize k 2 = k2 at *
  generalize k 3 = k3 at *
  generalize c 0 = c0 at *
  generalize c 1 = c1 at *
  generalize c 2 = c2 at *
  generalize c 3 = c3 at *
  obtain ⟨lx, mx, fx⟩ := HBX.out
  go_enter Try.func8, Try.ntmps8
  go_wp2_with fail
  refine KM.out.mono ?_
  rintro e w1 ⟨rfl, hw⟩
  rw [hw]
  clear hw w1 KM
  cases B with
  | false =>
    clear hB
    go_wp2_with fail
    refine KC.out.mono ?_
    rintro e w1 ⟨rfl, hb1⟩
    have D1 := hid (below2 D0.out hb1 D0.out.size)
    clear lx mx fx KC D0 HBX hb1
    go_wp2_with fail
    go_ret
    exact ⟨rfl, D1.out⟩
  | true =>
    have hid' : ¬ (1 ≤ id ∧ id < 256) := hB.resolve_left (by simp)
    clear hB
    go_wp2_with fail
    refine KC.out.mono ?_
    rintro e w1 ⟨rfl, hb1⟩
    have D1 := hid (below2 D0.out hb1 D0.out.size)
    clear lx mx fx KC D0 HBX hb1
    by_cases hi : id < 1
    · have hi' : decide (id < 1) = true := decide_eq_true hi
      clear hid'
      go_wp2_with fail
      go_ret
      exact ⟨rfl, D1.out⟩
    · have hi' : decide (id < 1) = false := decide_eq_false hi
      have hj : 256 ≤ id := by omega
      have hj' : decide (256 ≤ id) = true := decide_eq_true hj
      clear hid'
      go_wp2_with fail
      go_ret
      exact ⟨rfl, D1.out⟩

set_option maxRecDepth 100000 in
set_option maxHeartbeats 4000000 in
theorem gdropN {Ar : Nat → Prop} {w : World} {g b n : Nat} {D : DataW Value} {X : Nat → NdX} {H : Nat → Bool} (G : GroveN Ar w g b n D X H) (id : Int) (hw : (Lit.int .i64 id).wf = true) :
    Calls Try.prog 10 #[.pointer (some ⟨g, 0, none⟩), .int .i64 id] w fun e w' => e = .returned (.bool (decide (1 ≤ id ∧ id < 256) && H id.toNat)) ∧ GroveN Ar w' g b n (D.del (.int .i64 id)) X (fun i => H i && !decide ((i : Int) = id)) ∧ Sole (fun k => k = b) w w' := by
  have hV := G.look id hw
  generalize hx : (if decide (1 ≤ id ∧ id < 256) && H id.toNat then X id.toNat else NdX.zero) = x at hV
  have hrun := glook G.m.own id hw _ hV
  rw [G.has id hw] at hrun
  have hb1 := below_one w (.cells x.cells.toArray 29)
  have KA := hid (gallOf g (.map (some b)) w G.m.blk)
  have G1 := G.m.more hb1
  have KA1 := hid (gallOf g (.map (some b)) _ G1.blk)
  have hkey := keyOf_int_mk (P := Try.prog) Try.underlying3 hw
  obtain ⟨w2, hdel, hown2, hturn⟩ := G1.own.drop glawK Try.underlying71 hkey 0
  have S12 := (Sole.made (S := fun kk => kk = b) hb1).trans (grown_sole hturn.grown)
  have E := hid (show GroveN Ar w2 g b n (D.del (.int .i64 id)) X (fun i => H i && !decide ((i : Int) = id)) ∧ Sole (fun k => k = b) w w2 from by
    have hb := G.isMap
    refine ⟨⟨⟨G1.blk.sole (grown_sole hturn.grown) G1.ne, hown2, G1.ne⟩, G.im.del _, fun z hwz => ?_, fun i h1 h2 hh => ?_, fun i h1 h2 hh => ?_, fun i h1 h2 hh => ?_, G.np, G.nb⟩, S12⟩
    · by_cases hz : z = id
      · subst hz
        rw [has_del_same]
        by_cases hr : 1 ≤ z ∧ z < 256
        · simp [Int.toNat_of_nonneg (show 0 ≤ z by omega)]
        · rw [decide_eq_false hr]; rfl
      · rw [has_del_other (lit_ne hz), G.has z hwz]
        by_cases hr : 1 ≤ z ∧ z < 256
        · simp [Int.toNat_of_nonneg (show 0 ≤ z by omega), hz]
        · rw [decide_eq_false hr]; rfl
    all_goals simp only [Bool.and_eq_true, Bool.not_eq_true', decide_eq_false_iff_not] at hh
    · rw [atKey_del_other (lit_ne hh.2)]
      exact G.vat i h1 h2 hh.1
    · exact (G.lies i h1 h2 hh.1).apart S12 fun b' o e hm hk => by
        obtain ⟨es, c, hc⟩ := hb
        exact row_ne_map (G.lies i h1 h2 hh.1).row hc b' o e hm hk
    · exact G.ap i h1 h2 hh.1)
  generalize (decide (1 ≤ id ∧ id < 256) && H id.toNat) = hs at *
  clear G hb1 G1 S12 hturn hown2 hkey hV hx
  obtain ⟨lf, m, f, nx, k, c, q, cap⟩ := x
  dsimp only [NdX.cells, NdX.val] at hrun hdel KA1
  generalize k 0 = k0 at *
  generalize k 1 = k1 at *
  generalize k 2 = k2 at *
  generalize k 3 = k3 at *
  generalize c 0 = c0 at *
  generalize c 1 = c1 at *
  generalize c 2 = c2 at *
  generalize c 3 = c3 at *
  go_enter Try.func10, Try.ntmps10
  go_wp2_with fail
  refine KA.out.mono ?_
  rintro e w1 ⟨rfl, hw1⟩
  rw [hw1]
  clear hw1 w1 KA
  go_wp2_with fail
  refine KA1.out.mono ?_
  rintro e w1 ⟨rfl, hw1⟩
  rw [hw1]
  clear hw1 w1 KA1
  go_wp2_with fail
  go_ret
  exact ⟨rfl, E.out⟩

theorem gcloneN {Ar : Nat → Prop} {w : World} {g b n : Nat} {D : DataW Value} {X : Nat → NdX} {H : Nat → Bool} (G : GroveN Ar w g b n D X H) (hAr : ∀ k, Ar k → k < w.heap.size) :
    Calls Try.prog 7 #[.pointer (some ⟨g, 0, none⟩)] w fun e w' => ∃ g2 b2, e = .returned (.pointer (some ⟨g2, 0, none⟩)) ∧ w.heap.size ≤ g2 ∧ w.heap.size ≤ b2 ∧ GroveN Ar w' g2 b2 n D X H ∧ Below w.heap.size w w' := by
  refine (gclone_any g b n D w G.m).mono ?_
  rintro e w' ⟨g2, b2, rfl, h1, h2, G2, hb⟩
  have G' := G.more hb
  exact ⟨g2, b2, rfl, h1, h2, ⟨G2, G.im, G.has, G.vat, G'.lies, G.ap, fun hk => by have := hAr _ hk; omega, fun hk => by have := hAr _ hk; omega⟩, hb⟩
theorem gnewN (w : World) (Ar : Nat → Prop) (hAr : ∀ k, Ar k → k < w.heap.size) : Calls Try.prog 6 #[] w fun e w' => ∃ g b D, e = .returned (.pointer (some ⟨g, 0, none⟩)) ∧ w.heap.size ≤ g ∧ w.heap.size ≤ b ∧ GroveN Ar w' g b 0 D (fun _ => NdX.zero) (fun _ => false) ∧ Below w.heap.size w w' := by
  refine (gnew_m w).mono ?_
  rintro e w' ⟨g, b, rfl, h1, h2, G, hb⟩
  exact ⟨g, b, _, rfl, h1, h2, ⟨G, isMap_empty, fun z hw => by rw [Bool.and_false]; rfl, fun i _ _ h => absurd h (by simp), fun i _ _ h => absurd h (by simp), fun i _ _ h => absurd h (by simp), fun hk => by have := hAr _ hk; omega, fun hk => by have := hAr _ hk; omega⟩, hb⟩
end Go.Proofs.Ytghboanmiggcnaa

/-
  Package batch, as other layers reach it: which summaries may be. (The text of Batch's beginning: the law of another layer is not in this seat.)
-/

namespace Go.Proofs.Ytghboanmiggcnaa
open Go.RowKit
set_option linter.unusedVariables false
set_option linter.unusedSimpArgs false

/-- An entry. -/
structure En where
  k : Int
  i : Int
def En.ok (e : En) : Prop := -9223372036854775808 ≤ e.k ∧ e.k ≤ 9223372036854775807 ∧ -9223372036854775808 ≤ e.i ∧ e.i ≤ 9223372036854775807
def ecells (e : En) : List Value := [.int .i64 e.k, .int .i64 e.i]
abbrev smval (nx : Int) (la : Bool) (p : Option Addr) (n cap : Nat) : Value := .agg #[.int .i64 nx, .bool la, .slice p n cap]
abbrev smcells (nx : Int) (la : Bool) (p : Option Addr) (n cap : Nat) : Array Value := #[.int .i64 nx, .bool la, .slice p n cap]
def goodE (e : En) : Bool := (decide (e.k = 1) || decide (e.k = 2)) && (decide (1 ≤ e.i) && decide (e.i ≤ 255))
def allG (f : Nat → En) : Nat → Bool
  | 0 => true
  | k + 1 => allG f k && goodE (f k)
theorem allG_iff (f : Nat → En) : ∀ n, allG f n = true ↔ ∀ i, i < n → goodE (f i) = true
  | 0 => by simp [allG]
  | n + 1 => by
    simp only [allG, Bool.and_eq_true, allG_iff f n]
    constructor
    · rintro ⟨h1, h2⟩ i hi
      by_cases e : i = n
      · rw [e]; exact h2
      · exact h1 i (by omega)
    · intro h
      exact ⟨fun i hi => h i (by omega), h n (by omega)⟩
theorem allG_bad (f : Nat → En) {k n : Nat} (h : goodE (f k) = false) (hk : k < n) : allG f n = false := by
  cases hg : allG f n with
  | false => rfl
  | true => have := (allG_iff f n).1 hg k hk; rw [h] at this; cases this
def bCk (nx : Int) (n : Nat) (f : Nat → En) : Int := if nx < 0 ∨ 31 < nx then 4 else if 64 < n then 3 else if allG f n then 0 else 12
theorem good_ways (e : En) : (goodE e = true ∧ ((e.k = 1) ∨ (e.k = 2)) ∧ 1 ≤ e.i ∧ e.i ≤ 255) ∨ (goodE e = false ∧ e.k < 1) ∨ (goodE e = false ∧ 2 < e.k) ∨ (goodE e = false ∧ (e.k = 1 ∨ e.k = 2) ∧ e.i < 1) ∨ (goodE e = false ∧ (e.k = 1 ∨ e.k = 2) ∧ 1 ≤ e.i ∧ 255 < e.i) := by
  have h : goodE e = true ↔ ((e.k = 1 ∨ e.k = 2) ∧ 1 ≤ e.i ∧ e.i ≤ 255) := by simp [goodE]
  cases hg : goodE e with
  | true => exact .inl ⟨rfl, h.1 hg⟩
  | false =>
    have hn : ¬ ((e.k = 1 ∨ e.k = 2) ∧ 1 ≤ e.i ∧ e.i ≤ 255) := fun x => by rw [h.2 x] at hg; cases hg
    by_cases h1 : e.k < 1
    · exact .inr (.inl ⟨rfl, h1⟩)
    · by_cases h2 : 2 < e.k
      · exact .inr (.inr (.inl ⟨rfl, h2⟩))
      · by_cases h3 : e.i < 1
        · exact .inr (.inr (.inr (.inl ⟨rfl, by omega, h3⟩)))
        · exact .inr (.inr (.inr (.inr ⟨rfl, by omega, by omega, by omega⟩)))

end Go.Proofs.Ytghboanmiggcnaa

/-
  Layer 18: where entries go, as data.
-/

namespace Go.Proofs.Ytghboanmiggcnaa
open Go.RowKit
set_option linter.unusedVariables false
set_option linter.unusedSimpArgs false

/-- Entries as a row's elements. -/
def enT : RowT En := { ty := 42, sl := 39, sz := 2, bytes := 16, zero := .agg #[.int .i64 0, .int .i64 0], cells := ecells, dflt := ⟨0, 0⟩ }
theorem enOk : enT.Ok := ⟨Try.underlying39, by kernel_rfl, rfl, by decide, fun _ => rfl, fun x u hu => by
  simp [enT, ecells] at hu
  rcases hu with rfl | rfl <;> rfl⟩
def inT : RowT Int := { ty := 3, sl := 38, sz := 1, bytes := 8, zero := .int .i64 0, cells := fun x => [.int .i64 x], dflt := 0 }
theorem inOk : inT.Ok := ⟨Try.underlying38, by kernel_rfl, rfl, by decide, fun _ => rfl, fun x u hu => by
  simp [inT] at hu
  rcases hu with rfl; rfl⟩
abbrev penAt (L : List En) (i : Nat) : En := atR enT L i
abbrev inAt (L : List Int) (i : Nat) : Int := atR inT L i
theorem en_rowp {w : World} {q : Option Addr} {L : List En} (h : RowOf enT w q L) : RowP w q 2 L.length (fun i => ecells (penAt L i)) := h
theorem in_rowp {w : World} {q : Option Addr} {L : List Int} (h : RowOf inT w q L) : RowP w q 1 L.length (fun i => [.int .i64 (inAt L i)]) := h
theorem enAt_cons (x : En) (L : List En) (i : Nat) : penAt (x :: L) (i + 1) = penAt L i := rfl
theorem drop_at {α : Type} (T : RowT α) (L : List α) (k : Nat) (h : k < L.length) : L.drop k = atR T L k :: L.drop (k + 1) := by
  rw [atR_eq L k h]; exact List.drop_eq_getElem_cons h

/-- How many are written. -/
def wrN (L : List En) : Nat := L.countP (fun e => decide (e.k = 1))
theorem wrN_le (L : List En) : wrN L ≤ L.length := List.countP_le_length
theorem wrN_cons (x : En) (L : List En) : wrN (x :: L) = wrN L + if x.k = 1 then 1 else 0 := by
  unfold wrN
  rw [List.countP_cons]
  simp
theorem wrN_append (L M : List En) : wrN (L ++ M) = wrN L + wrN M := List.countP_append
theorem wrN_take (L : List En) (k : Nat) (h : k < L.length) : wrN (L.take (k + 1)) = wrN (L.take k) + if (penAt L k).k = 1 then 1 else 0 := by
  rw [List.take_add_one, List.getElem?_eq_getElem h, wrN_append, ← atR_eq (T := enT) L k h]
  show wrN (L.take k) + wrN [penAt L k] = _
  rw [wrN_cons]
  simp [wrN]

/-- How many go, one behind the other, if so many written ones may; and of one part. -/
def nxt (x : En) (left : Int) : Int := if x.k = 1 then left - 1 else left
theorem nxt_ways (x : En) (left : Int) : (x.k = 1 ∧ nxt x left = left - 1) ∨ (¬ x.k = 1 ∧ nxt x left = left) := by
  unfold nxt
  by_cases h : x.k = 1
  · exact .inl ⟨h, if_pos h⟩
  · exact .inr ⟨h, if_neg h⟩
def fitN : List En → Int → Nat
  | [], _ => 0
  | x :: l, left => if nxt x left < 0 then 0 else fitN l (nxt x left) + 1
def fit (L : List En) (left : Int) : Nat := min (fitN L left) 64
theorem fitN_le : ∀ (L : List En) (left : Int), fitN L left ≤ L.length
  | [], _ => Nat.le_refl _
  | x :: l, left => by
    unfold fitN
    split
    · exact Nat.zero_le _
    · exact Nat.succ_le_succ (fitN_le l _)
theorem fit_le (L : List En) (left : Int) : fit L left ≤ L.length := Nat.le_trans (Nat.min_le_left _ _) (fitN_le L left)
theorem fit_64 (L : List En) (left : Int) : fit L left ≤ 64 := Nat.min_le_right _ _
theorem fitN_step (L : List En) (left : Int) (k : Nat) (h : k < L.length) :
    fitN (L.drop k) (left - wrN (L.take k)) = if left - wrN (L.take (k + 1)) < 0 then 0 else fitN (L.drop (k + 1)) (left - wrN (L.take (k + 1))) + 1 := by
  rw [drop_at enT L k h, wrN_take L k h]
  show (if nxt (penAt L k) (left - wrN (L.take k)) < 0 then 0 else fitN _ (nxt (penAt L k) (left - wrN (L.take k))) + 1) = _
  have e : nxt (penAt L k) (left - wrN (L.take k)) = left - ((wrN (L.take k) + if (penAt L k).k = 1 then 1 else 0 : Nat) : Int) := by
    rcases nxt_ways (penAt L k) (left - wrN (L.take k)) with ⟨h1, h2⟩ | ⟨h1, h2⟩
    · rw [h2, if_pos h1]; omega
    · rw [h2, if_neg h1]; omega
  rw [e]
theorem fitN_wr : ∀ (L : List En) (left : Int) (k : Nat), 0 ≤ left → k ≤ fitN L left → (wrN (L.take k) : Int) ≤ left
  | [], left, k, h0, hk => by simp [wrN]; exact h0
  | x :: l, left, 0, h0, hk => by simp [wrN]; exact h0
  | x :: l, left, k + 1, h0, hk => by
    unfold fitN at hk
    split at hk
    · omega
    · rename_i hn
      have := fitN_wr l _ k (by omega) (Nat.le_of_succ_le_succ hk)
      rw [List.take_succ_cons, wrN_cons]
      rcases nxt_ways x left with ⟨h1, h2⟩ | ⟨h1, h2⟩
      · rw [if_pos h1]; omega
      · rw [if_neg h1]; omega
theorem fit_wr (L : List En) (left : Int) (h0 : 0 ≤ left) : (wrN (L.take (fit L left)) : Int) ≤ left := fitN_wr L left _ h0 (Nat.min_le_left _ _)
theorem fit_pos {L : List En} {left : Int} (h : L ≠ []) (h1 : 1 ≤ left) : 1 ≤ fit L left := by
  cases L with
  | nil => exact absurd rfl h
  | cons x l =>
    have : 1 ≤ fitN (x :: l) left := by
      unfold fitN
      split
      · rename_i hn; rcases nxt_ways x left with ⟨h1, h2⟩ | ⟨h1, h2⟩ <;> omega
      · omega
    unfold fit
    omega

/-- A place of the log. -/
structure Plc where
  seg : Int
  off : Int
  next : Int
/-- A part: where, whether it is the last, what. -/
structure PtD where
  pl : Plc
  last : Bool
  es : List En

/-- The segment goes on, or the next one begins. -/
def stepP (z : Int) (p : Plc) (fr : List Int) : Option (Plc × List Int) :=
  if z - p.off < 2 then
    match fr with
    | [] => none
    | x :: xs => some (⟨p.next, 0, x⟩, xs)
  else some (p, fr)
def partP (z : Int) (q : Plc) (l : List En) : PtD := ⟨q, decide (fit l (z - q.off - 1) = l.length), l.take (fit l (z - q.off - 1))⟩
def behindP (z : Int) (q : Plc) (l : List En) : Plc := ⟨q.seg, q.off + (1 + wrN (l.take (fit l (z - q.off - 1)))), q.next⟩
def planK (z : Int) : Nat → Plc → List Int → List En → Option (List PtD × Plc × List Int)
  | 0, p, fr, _ => some ([], p, fr)
  | k + 1, p, fr, l => if l = [] then some ([], p, fr) else
    match stepP z p fr with
    | none => none
    | some (q, f) => (planK z k (behindP z q l) f (l.drop (fit l (z - q.off - 1)))).map fun r => (partP z q l :: r.1, r.2)
/-- All of it. -/
def planP (z : Int) (p : Plc) (fr : List Int) (l : List En) : Option (List PtD × Plc × List Int) := planK z l.length p fr l

theorem planK_nil (z : Int) (p : Plc) (fr : List Int) : ∀ k, planK z k p fr [] = some ([], p, fr)
  | 0 => rfl
  | k + 1 => by simp [planK]
theorem planK_none {z : Int} {k : Nat} {p : Plc} {fr : List Int} {l : List En} (hl : l ≠ []) (hk : l.length ≤ k) (h : stepP z p fr = none) : planK z k p fr l = none := by
  cases k with
  | zero => exact absurd (List.eq_nil_of_length_eq_zero (by omega)) hl
  | succ k => simp [planK, hl, h]
theorem planK_step {z : Int} {k : Nat} {p q : Plc} {fr f : List Int} {l : List En} (hl : l ≠ []) (h : stepP z p fr = some (q, f)) :
    planK z (k + 1) p fr l = (planK z k (behindP z q l) f (l.drop (fit l (z - q.off - 1)))).map fun r => (partP z q l :: r.1, r.2) := by
  simp [planK, hl, h]

/-- A place, and free segments, that may be. -/
structure GoodP (n z : Int) (p : Plc) (fr : List Int) : Prop where
  n6 : 6 ≤ n
  n32 : n ≤ 32
  z4 : 4 ≤ z
  z32 : z ≤ 32
  s0 : 0 ≤ p.seg
  sn : p.seg < n
  o0 : 0 ≤ p.off
  oz : p.off ≤ z
  x0 : 0 ≤ p.next
  xn : p.next < n
  fr : ∀ x ∈ fr, 0 ≤ x ∧ x < n
theorem GoodP.step {n z : Int} {p q : Plc} {fr f : List Int} (G : GoodP n z p fr) (h : stepP z p fr = some (q, f)) : GoodP n z q f ∧ q.off + 2 ≤ z ∧ f.length ≤ fr.length := by
  unfold stepP at h
  split at h
  · cases fr with
    | nil => simp at h
    | cons x xs =>
      simp at h
      obtain ⟨rfl, rfl⟩ := h
      have hx := G.fr x (List.mem_cons_self)
      exact ⟨⟨G.n6, G.n32, G.z4, G.z32, G.x0, G.xn, by simp, by have := G.z4; simp; omega, hx.1, hx.2, fun y hy => G.fr y (List.mem_cons_of_mem _ hy)⟩, by have := G.z4; simp; omega, by simp⟩
  · rename_i h0
    simp at h
    obtain ⟨rfl, rfl⟩ := h
    exact ⟨G, by omega, Nat.le_refl _⟩
theorem GoodP.behind {n z : Int} {q : Plc} {f : List Int} (G : GoodP n z q f) (ho : q.off + 2 ≤ z) (l : List En) : GoodP n z (behindP z q l) f := by
  have h := fit_wr l (z - q.off - 1) (by omega)
  have h0 := G.o0
  exact ⟨G.n6, G.n32, G.z4, G.z32, G.s0, G.sn, by simp only [behindP]; omega, by simp only [behindP]; omega, G.x0, G.xn, G.fr⟩
end Go.Proofs.Ytghboanmiggcnaa

/-
  Package grove: Fresh and Changed, of any grove.
-/


namespace Go.Proofs.Ytghboanmiggcnaa
open Go.RowKit Go.Maps Go.Shelf
set_option linter.unusedVariables false
set_option linter.unusedSimpArgs false

/-- What is the least number ahead of n that is free; 0: none is. -/
def FreshAt (H : Nat → Bool) (n v : Nat) : Prop := (v = 0 ∧ ∀ i, 1 ≤ i → i < n → H i = true) ∨ (1 ≤ v ∧ v < n ∧ H v = false ∧ ∀ i, 1 ≤ i → i < v → H i = true)
theorem FreshAt.eq {H : Nat → Bool} {n v u : Nat} (h : FreshAt H n v) (h' : FreshAt H n u) : v = u := by
  rcases h with ⟨rfl, a⟩ | ⟨a1, a2, a3, a4⟩ <;> rcases h' with ⟨rfl, c⟩ | ⟨c1, c2, c3, c4⟩
  · rfl
  · rw [a u c1 c2] at c3; cases c3
  · rw [c v a1 a2] at a3; cases a3
  · rcases Nat.lt_trichotomy v u with q | q | q
    · rw [c4 v a1 q] at a3; cases a3
    · exact q
    · rw [a4 u c1 q] at c3; cases c3
theorem FreshAt.congr {H H' : Nat → Bool} {n v : Nat} (h : FreshAt H n v) (he : ∀ i, 1 ≤ i → i < n → H' i = H i) : FreshAt H' n v := by
  rcases h with ⟨rfl, a⟩ | ⟨a1, a2, a3, a4⟩
  · exact .inl ⟨rfl, fun i h1 h2 => (he i h1 h2).trans (a i h1 h2)⟩
  · exact .inr ⟨a1, a2, (he v a1 a2).trans a3, fun i h1 h2 => (he i h1 (by omega)).trans (a4 i h1 h2)⟩
def chg1 (X Y : Nat → NdX) (H K : Nat → Bool) (i : Nat) : List En := if H i && !(K i && (X i).same (Y i)) then [⟨1, (i : Int)⟩] else if K i && !H i then [⟨2, (i : Int)⟩] else []
def chgL (X Y : Nat → NdX) (H K : Nat → Bool) : Nat → List En
  | 0 => []
  | n + 1 => chgL X Y H K n ++ (if n = 0 then [] else chg1 X Y H K n)
theorem chgL_succ (X Y : Nat → NdX) (H K : Nat → Bool) {i : Nat} (h : 1 ≤ i) : chgL X Y H K (i + 1) = chgL X Y H K i ++ chg1 X Y H K i := by
  simp only [chgL]
  rw [if_neg (by omega)]
theorem chgL_one (X Y : Nat → NdX) (H K : Nat → Bool) : chgL X Y H K 1 = [] := rfl
theorem chg1_len (X Y : Nat → NdX) (H K : Nat → Bool) (i : Nat) : (chg1 X Y H K i).length ≤ 1 := by
  unfold chg1
  split
  · exact Nat.le_refl _
  · split
    · exact Nat.le_refl _
    · exact Nat.zero_le _
theorem chgL_len (X Y : Nat → NdX) (H K : Nat → Bool) : ∀ n, (chgL X Y H K n).length ≤ n
  | 0 => Nat.le_refl _
  | n + 1 => by
    simp only [chgL]
    rw [List.length_append]
    have := chgL_len X Y H K n
    have h2 := chg1_len X Y H K n
    split
    · simp; omega
    · omega
theorem row_grow {α : Type} {T : RowT α} (K : T.Ok) {B : Nat} {w : World} {v : Value} {L : List α} (O : RowOwn T w B v L) (hB : B ≤ w.heap.size) (x : α) (c : Array Value) (hc : c.toList = T.cells x) (hn : (L.length + 1) * T.bytes ≤ 140737488355328) (h63 : L.length + 1 ≤ maxLen) :
    ∃ v' w', (∀ ty, (Builtin.append_ #[T.sl, T.sl] ty #[v, .slice (some ⟨w.heap.size, 0, none⟩) 1 1]).run Try.prog (w.alloc (.cells c T.ty)) = .ok v' w') ∧ RowOwn T w' B v' (L ++ [x]) ∧ Below B w w' := by
  have b1 : Below w.heap.size w (w.alloc (.cells c T.ty)) := below_one _ _
  obtain ⟨v', w', hr, O', gr, _⟩ := append_row K B T.sl _ v L (O.more b1) (some ⟨w.heap.size, 0, none⟩) 1 [x] (rowOf_one K (Blk.new w _ _) hc) (by simpa using hn) (by simpa using h63) (by simp; omega)
  exact ⟨v', w', fun ty => hr, O', Below.grown (b1.mono hB) gr (by simp; omega) fun k hk => (O.within k hk).1⟩

theorem gstep_append_run {P : Program} {ops : Array Oper} {o : Oper} {a : Act} {w : World} {K : Act → World → Prop} {Q : Exit → Act → World → Prop} {E : Prop} (hgd : o.guard = none) (s x : Operand) (t : TypeId)
    (ho : o.op = .call { callee := .builtin .append, args := #[s, x], argTypes := #[t, t] }) (v u : Value) (hs : a.eval s = v) (hx : a.eval x = u) (v' : Value) (w' : World) (hr : ∀ ty, (Builtin.append_ #[t, t] ty #[v, u]).run P w = .ok v' w') (h : K (a.put o.dst v') w') :
    if Region.wanted o (yielded ops a.tmps) = true then Oper.wp P o a w K Q else E := by
  rw [if_pos (by simp [Region.wanted, hgd])]
  unfold Oper.wp
  simp [execOp, ho, resolve, invoke, builtin, hs, hx, hr, Result.andThen]
  exact h

set_option maxRecDepth 100000 in
set_option maxHeartbeats 4000000 in
theorem gfreshN {Ar : Nat → Prop} {w : World} {g b n : Nat} {D : DataW Value} {X : Nat → NdX} {H : Nat → Bool} (G : GroveN Ar w g b n D X H) :
    Calls Try.prog 14 #[.pointer (some ⟨g, 0, none⟩)] w fun e w' => (∃ v : Nat, FreshAt H 256 v ∧ e = .returned (.tuple #[.int .i64 (v : Int), .int .i64 (if v = 0 then 10 else 0)])) ∧ Below w.heap.size w w' := by
  have KM := hid (gmadeOf g (some b) w G.m.blk)
  have hG := hid G
  obtain ⟨lg, mg, fg⟩ := G.m.blk
  clear G
  go_enter Try.func14, Try.ntmps14
  go_wp2_with fail
  refine KM.out.mono ?_
  rintro e w1 ⟨rfl, hw1⟩
  rw [hw1]
  clear hw1 w1 KM
  go_wp2_with fail
  go_loopw [4] (fun sid wr => ∃ i : Nat, 1 ≤ i ∧ i ≤ 256 ∧ sid = .int .i64 (i : Int) ∧ (∀ j, 1 ≤ j → j < i → H j = true) ∧ Below w.heap.size w wr) (fun sid _ => 256 - (intOf sid).toNat)
  case atStart => exact ⟨1, by omega, by omega, rfl, fun j h1 h2 => by omega, Below.refl _ _⟩
  case round =>
    obtain ⟨i, hi1, hi2, rfl, hall, hb⟩ := hrel
    clear lg mg fg
    by_cases hlt : i < 256
    · have hlt' : (i : Int) < 256 := by omega
      have hwi := wf_id (show (0 : Int) ≤ (i : Int) by omega) (by omega)
      have G1 := hG.out.more hb
      have hH : (decide (1 ≤ (i : Int) ∧ (i : Int) < 256) && H (i : Int).toNat) = H i := by rw [decide_eq_true ⟨by omega, by omega⟩]; simp
      have hV1 := G1.look (i : Int) hwi
      have hh1 := G1.has (i : Int) hwi
      rw [hH] at hV1 hh1
      generalize (if H i then X (i : Int).toNat else NdX.zero) = x at hV1
      have hrun1 := glook G1.m.own (i : Int) hwi _ hV1
      rw [hh1] at hrun1
      have hbh := hid (below2 hb (below_one wr (.cells x.cells.toArray 29)) hb.size)
      obtain ⟨lg, mg, fg⟩ := G1.m.blk
      have hallh := hid hall
      have hmeas := hid (meas_up9 256 i hlt)
      have hw1 : wrap64 ((i : Int) + 1) = ((i + 1 : Nat) : Int) := by
        rw [IntWalk.wrap64_in _ ⟨by omega, by omega⟩]
        rfl
      obtain ⟨lf, m, f, nx, k, c, q, cap⟩ := x
      dsimp only [NdX.cells, NdX.val] at hrun1 hbh
      generalize k 0 = k0 at *
      generalize k 1 = k1 at *
      generalize k 2 = k2 at *
      generalize k 3 = k3 at *
      generalize c 0 = c0 at *
      generalize c 1 = c1 at *
      generalize c 2 = c2 at *
      generalize c 3 = c3 at *
      clear G1 hV1 hh1 hH hall hb
      cases hHi : H i with
      | true =>
        rw [hHi] at hrun1
        go_wp2_with fail
        exact ⟨⟨i + 1, by omega, by omega, rfl, fun j h1 h2 => by
          by_cases e : j = i
          · rw [e]; exact hHi
          · exact hallh.out j h1 (by omega), hbh.out⟩, hmeas.out _ rfl⟩
      | false =>
        rw [hHi] at hrun1
        go_wp2_with fail
        go_ret2
        exact ⟨⟨i, .inr ⟨hi1, hlt, hHi, hallh.out⟩, by rw [if_neg (by omega)]; rfl⟩, hbh.out⟩
    · obtain rfl : i = 256 := by omega
      have hallh := hid hall
      have hbh := hid hb
      clear hall hb
      go_wp2_with fail
      go_ret2
      exact ⟨⟨0, .inl ⟨rfl, hallh.out⟩, rfl⟩, hbh.out⟩

end Go.Proofs.Ytghboanmiggcnaa

/-
  Package grove: Changed, of any two groves.
-/

namespace Go.Proofs.Ytghboanmiggcnaa
open Go.RowKit Go.Maps Go.Shelf
set_option linter.unusedVariables false
set_option linter.unusedSimpArgs false

set_option maxRecDepth 100000 in
set_option maxHeartbeats 8000000 in
theorem gchangedN {Ar : Nat → Prop} {w : World} {g b n : Nat} {D : DataW Value} {X : Nat → NdX} {H : Nat → Bool} {go bo no : Nat} {Do : DataW Value} {Y : Nat → NdX} {K : Nat → Bool} (G : GroveN Ar w g b n D X H) (G2 : GroveN Ar w go bo no Do Y K) :
    Calls Try.prog 13 #[.pointer (some ⟨g, 0, none⟩), .pointer (some ⟨go, 0, none⟩)] w fun e w' => ∃ v, e = .returned v ∧ RowOwn enT w' w.heap.size v (chgL X Y H K 256) ∧ Below w.heap.size w w' := by
  have KM := hid (gmadeOf g (some b) w G.m.blk)
  have hG := hid G
  have hG2 := hid G2
  obtain ⟨lg, mg, fg⟩ := G.m.blk
  clear G G2
  go_enter Try.func13, Try.ntmps13
  go_wp2_with fail
  refine KM.out.mono ?_
  rintro e w1 ⟨rfl, hw1⟩
  rw [hw1]
  clear hw1 w1 KM
  go_wp2_with fail
  go_loopw [5, 6] (fun sl sid wr => ∃ i : Nat, 1 ≤ i ∧ i ≤ 256 ∧ sid = .int .i64 (i : Int) ∧ RowOwn enT wr w.heap.size sl (chgL X Y H K i) ∧ Below w.heap.size w wr) (fun _ sid _ => 256 - (intOf sid).toNat)
  case atStart => exact ⟨1, by omega, by omega, rfl, RowOwn.nil _ _, Below.refl _ _⟩
  case round =>
    obtain ⟨i, hi1, hi2, rfl, O, hb⟩ := hrel
    clear lg mg fg
    by_cases hlt : i < 256
    · have hlt' : (i : Int) < 256 := by omega
      have hwi := wf_id (show (0 : Int) ≤ (i : Int) by omega) (by omega)
      have G1 := hG.out.more hb
      have hH : ∀ H : Nat → Bool, (decide (1 ≤ (i : Int) ∧ (i : Int) < 256) && H (i : Int).toNat) = H i := fun H => by rw [decide_eq_true ⟨by omega, by omega⟩]; simp
      have hV1 := G1.look (i : Int) hwi
      have hl1 := G1.finds (i : Int)
      have hh1 := G1.has (i : Int) hwi
      rw [hH H, Int.toNat_natCast] at hV1 hl1
      rw [hH H] at hh1
      obtain ⟨x, hx⟩ : ∃ x, x = (if H i then X i else NdX.zero) := ⟨_, rfl⟩
      rw [← hx] at hV1 hl1
      have hrun1 := glook G1.m.own (i : Int) hwi _ hV1
      rw [hh1] at hrun1
      have hb1 := below_one wr (.cells x.cells.toArray 29)
      have hbb := below2 hb hb1 hb.size
      have G2' := hG2.out.more hbb
      have hV2 := G2'.look (i : Int) hwi
      have hl2 := G2'.finds (i : Int)
      have hh2 := G2'.has (i : Int) hwi
      rw [hH K, Int.toNat_natCast] at hV2 hl2
      rw [hH K] at hh2
      obtain ⟨y, hy⟩ : ∃ y, y = (if K i then Y i else NdX.zero) := ⟨_, rfl⟩
      rw [← hy] at hV2 hl2
      have hrun2 := glook G2'.m.own (i : Int) hwi _ hV2
      rw [hh2] at hrun2
      have KA := hid (gallOf go (.map (some bo)) _ G2'.m.blk)
      have hb2 := below_one (wr.alloc (.cells x.cells.toArray 29)) (.cells y.cells.toArray 29)
      have BX := (Blk.new wr x.cells.toArray 29).more hb2
      have BY := Blk.new (wr.alloc (.cells x.cells.toArray 29)) y.cells.toArray 29
      rw [show (wr.alloc (.cells x.cells.toArray 29)).heap.size = wr.heap.size + 1 by simp] at BY
      have hb12 := below2 hb1 hb2 hb1.size
      have O2 := hid (O.more hb12)
      have D2 := hid (below2 hbb hb2 hbb.size)
      have KS := nsame_any x.lf y.lf x.q y.q x.m y.m x.cap y.cap x.f y.f x.nx y.nx x.k y.k x.c y.c hl1.cap hl1.max hl2.cap hl2.max _ (hl1.row.more hb12) (hl2.row.more hb2)
      have hS : nSame x.lf y.lf x.m y.m x.f y.f x.nx y.nx x.k y.k x.c y.c = x.same y := rfl
      rw [hS] at KS
      have hch : H i = true → K i = true → x.same y = (X i).same (Y i) := fun h1 h2 => by rw [hx, hy, h1, h2]; rfl
      have hsucc := hid (chgL_succ X Y H K hi1)
      have hlen := hid (chgL_len X Y H K i)
      obtain ⟨lg, mg, fg⟩ := G1.m.blk
      have hmeas := hid (meas_up9 256 i hlt)
      have hw1 : wrap64 ((i : Int) + 1) = ((i + 1 : Nat) : Int) := by
        rw [IntWalk.wrap64_in _ ⟨by omega, by omega⟩]
        rfl
      generalize x.same y = S at *
      have hchh := hid hch
      clear G1 hV1 hh1 hH hb hl1 hl2 hh2 hV2 G2' hb1 hb2 hb12 hbb hx hy hch O hS
      obtain ⟨lf, m, f, nx, k, c, q, cap⟩ := x
      obtain ⟨lf', m', f', nx', k', c', q', cap'⟩ := y
      dsimp only [NdX.cells, NdX.val, ndval, ndl] at hrun1 hrun2 BX BY O2 D2 KS KA
      generalize k 0 = k0 at *
      generalize k 1 = k1 at *
      generalize k 2 = k2 at *
      generalize k 3 = k3 at *
      generalize c 0 = c0 at *
      generalize c 1 = c1 at *
      generalize c 2 = c2 at *
      generalize c 3 = c3 at *
      generalize k' 0 = k0' at *
      generalize k' 1 = k1' at *
      generalize k' 2 = k2' at *
      generalize k' 3 = k3' at *
      generalize c' 0 = c0' at *
      generalize c' 1 = c1' at *
      generalize c' 2 = c2' at *
      generalize c' 3 = c3' at *
      replace KS := hid KS
      have HBX := hid BX
      have HBY := hid BY
      clear BX BY
      obtain ⟨lx, mx, fx⟩ := HBX.out
      obtain ⟨ly, my, fy⟩ := HBY.out
      generalize hHi : H i = hi at *
      generalize hKi : K i = ki at *
      have hHh := hid hHi
      have hKh := hid hKi
      clear hHi hKi
      -- @@
      go_wp2_with fail
      -- @@
      refine KA.out.mono ?_
      rintro e w2 ⟨rfl, hw2⟩
      rw [hw2]
      clear hw2 w2 KA
      go_upto_region 9 with (fail)
      generalize World.alloc (World.alloc wr _) _ = W2 at *
      generalize wr.heap.size + 1 = g9 at *
      generalize wr.heap.size = g7 at *
      have hone : ∀ W v, RowOwn enT W w.heap.size v (chgL X Y H K i) → w.heap.size ≤ W.heap.size → ∀ kk : Int, ∃ v' W', (∀ ty, (Builtin.append_ #[39, 39] ty #[v, .slice (some ⟨W.heap.size, 0, none⟩) 1 1]).run Try.prog (W.alloc (.cells #[.int .i64 kk, .int .i64 (i : Int)] 42)) = .ok v' W') ∧ RowOwn enT W' w.heap.size v' (chgL X Y H K i ++ [⟨kk, (i : Int)⟩]) ∧ Below w.heap.size W W' := fun W v O hB kk =>
        row_grow enOk O hB ⟨kk, (i : Int)⟩ #[.int .i64 kk, .int .i64 (i : Int)] rfl (by show (_ + 1) * 16 ≤ _; have := hlen.out; omega) (by unfold maxLen; have := hlen.out; omega)
      have honeh := hid hone
      clear hone
      -- @@
      cases hi with
      | false =>
        cases ki with
        | false =>
          -- @@
          go_wp2_with fail
          exact ⟨⟨i + 1, by omega, by omega, rfl, by rw [hsucc.out, show chg1 X Y H K i = [] by unfold chg1; rw [hHh.out, hKh.out]; rfl, List.append_nil]; exact O2.out, D2.out⟩, hmeas.out _ rfl⟩
        | true =>
          obtain ⟨v', w', hr, O', hb'⟩ := honeh.out _ _ O2.out D2.out.size 2
          have Oh := hid O'
          have Dh := hid (D2.out.trans hb')
          clear O' hb'
          go_wp2_with (at_builtin; refine Lib.wpList_append_run _ rfl _ _ _ _ rfl _ _ rfl rfl _ _ (hr _) ?_)
          exact ⟨⟨i + 1, by omega, by omega, rfl, by rw [hsucc.out, show chg1 X Y H K i = [⟨2, (i : Int)⟩] by unfold chg1; rw [hHh.out, hKh.out]; rfl]; exact Oh.out, Dh.out⟩, hmeas.out _ rfl⟩
      | true =>
        cases ki with
        | false =>
          obtain ⟨v', w', hr, O', hb'⟩ := honeh.out _ _ O2.out D2.out.size 1
          have Oh := hid O'
          have Dh := hid (D2.out.trans hb')
          clear O' hb'
          go_wp2_with (at_builtin; refine Lib.wpList_append_run _ rfl _ _ _ _ rfl _ _ rfl rfl _ _ (hr _) ?_)
          exact ⟨⟨i + 1, by omega, by omega, rfl, by rw [hsucc.out, show chg1 X Y H K i = [⟨1, (i : Int)⟩] by unfold chg1; rw [hHh.out, hKh.out]; rfl]; exact Oh.out, Dh.out⟩, hmeas.out _ rfl⟩
        | true =>
          go_wp2_with fail
          refine KS.out.mono ?_
          rintro e w3 ⟨rfl, hb3⟩
          have O3 := hid (O2.out.more hb3)
          have D3 := hid (below2 D2.out hb3 D2.out.size)
          have hSx := hid (hchh.out (by trivial) (by trivial))
          clear hb3 lx mx fx ly my fy HBX HBY KS
          cases S with
          | true =>
            go_wp2_with fail
            exact ⟨⟨i + 1, by omega, by omega, rfl, by rw [hsucc.out, show chg1 X Y H K i = [] by unfold chg1; rw [hHh.out, hKh.out, ← hSx.out]; rfl, List.append_nil]; exact O3.out, D3.out⟩, hmeas.out _ rfl⟩
          | false =>
            obtain ⟨v', w', hr, O', hb'⟩ := honeh.out _ _ O3.out D3.out.size 1
            have Oh := hid O'
            have Dh := hid (D3.out.trans hb')
            clear O' hb'
            go_wp2_with (at_builtin; refine Lib.wpList_append_run _ rfl _ _ _ _ rfl _ _ rfl rfl _ _ (hr _) ?_)
            exact ⟨⟨i + 1, by omega, by omega, rfl, by rw [hsucc.out, show chg1 X Y H K i = [⟨1, (i : Int)⟩] by unfold chg1; rw [hHh.out, hKh.out, ← hSx.out]; rfl]; exact Oh.out, Dh.out⟩, hmeas.out _ rfl⟩
    · obtain rfl : i = 256 := by omega
      have Oh := hid O
      have hbh := hid hb
      clear O hb
      go_wp2_with fail
      go_ret
      exact ⟨_, rfl, Oh.out, hbh.out⟩
end Go.Proofs.Ytghboanmiggcnaa

/-
  The document's own: are two lists of numbers one? Here of one and the same.
-/





namespace Go.Proofs.Ytghboanmiggcnaa
open Go.RowKit
set_option linter.unusedVariables false
set_option linter.unusedSimpArgs false

set_option maxRecDepth 100000 in
theorem plainInts_same (pa pb : Option Addr) (n ca cb : Nat) (f : Nat → Int) (h1 : n ≤ ca) (h2 : ca ≤ maxLen) (h3 : n ≤ cb) (h4 : cb ≤ maxLen) (w : World) (HA : RowP w pa 1 n (fun i => [.int .i64 (f i)])) (HB : RowP w pb 1 n (fun i => [.int .i64 (f i)])) :
    Calls Try.prog 15 #[.slice pa n ca, .slice pb n cb] w fun e w' => e = .returned (.bool true) ∧ Below w.heap.size w w' := by
  unfold maxLen at h2 h4
  replace HA := hid HA
  replace HB := hid HB
  go_enter Try.func15, Try.ntmps15
  go_wp2_with fail
  go_loopw [5] (fun i wx => ∃ k : Nat, k ≤ n ∧ i = .int .i64 (k : Int) ∧ Below w.heap.size w wx) (fun i _ => n - (intOf i).toNat)
  case atStart => exact ⟨0, by omega, rfl, Below.refl _ _⟩
  case round =>
    obtain ⟨k, hk, rfl, hb⟩ := hrel
    by_cases hlt : k < n
    · obtain ⟨b, o, rfl, R⟩ := HA.out.row (by omega)
      obtain ⟨b', o', rfl, R'⟩ := HB.out.row (by omega)
      have R := R.more hb
      have R' := R'.more hb
      have y0 := R.at0 hlt (v := .int .i64 (f k)) rfl
      have z0 := R'.at0 hlt (v := .int .i64 (f k)) rfl
      rw [Nat.mul_one] at y0 z0
      clear R R'
      replace hb := hid hb
      go_wp2_with fail
      go_quiet (fail)
      go_wp2_with fail
      go_roundw
      case rel => exact ⟨k + 1, by omega, by go_num, ⟨hb.out.os, hb.out.tape, hb.out.output, hb.out.size, hb.out.block⟩⟩
      case measure => simp [intOf]; omega
    · obtain rfl : k = n := by omega
      replace hb := hid hb
      go_wp2
      go_ret
      exact ⟨rfl, hb.out⟩
end Go.Proofs.Ytghboanmiggcnaa

/-
  Layer 22: what the law's variables hold as its calls go on: two groves, and arrays beside them.
-/


namespace Go.Proofs.Ytghboanmiggcnaa
open Go.RowKit Go.Maps Go.Shelf
set_option linter.unusedVariables false
set_option linter.unusedSimpArgs false

/-- A call of the law, as it comes in. -/
structure OpG where
  k : Int
  i : Int
  x : NdX
abbrev OpG.cells (o : OpG) : List Value := .int .i64 o.k :: .int .i64 o.i :: o.x.cells
structure OpG.ok (o : OpG) (w : World) : Prop where
  k : (Lit.int .i64 o.k).wf = true
  i : (Lit.int .i64 o.i).wf = true
  x : o.x.lies w
  f : ∀ j, j < o.x.m → (o.x.f j).ok

/-- The arrays' blocks. -/
def ArS (a7 a8 a9 a10 : Nat) (k : Nat) : Prop := k = a7 ∨ k = a8 ∨ k = a9 ∨ k = a10
/-- Memory: two groves, two arrays of nodes, two of Booleans. -/
structure RunM (w0 wr : World) (a7 a8 a9 a10 : Nat) (A B X Y : Nat → NdX) (I J H K : Nat → Bool) (g b n : Nat) (D : DataW Value) (go bo no : Nat) (Do : DataW Value) : Prop where
  G : GroveN (ArS a7 a8 a9 a10) wr g b n D X H
  O : GroveN (ArS a7 a8 a9 a10) wr go bo no Do Y K
  bb : b ≠ bo ∧ b ≠ go
  c7 : ∃ C, Blk wr a7 C ∧ NdsC C A
  c8 : ∃ C, Blk wr a8 C ∧ NdsC C B
  c9 : ∃ C, Blk wr a9 C ∧ BlsC C I
  c10 : ∃ C, Blk wr a10 C ∧ BlsC C J
  lo : w0.heap.size ≤ b
  S : Below w0.heap.size w0 wr
/-- What is known of the data. -/
structure RunR (w0 : World) (A B X Y : Nat → NdX) (I J H K : Nat → Bool) : Prop where
  hi : ∀ i, 1 ≤ i → i < 256 → I i = H i
  jk : ∀ i, 1 ≤ i → i < 256 → J i = K i
  xa : ∀ i, 1 ≤ i → i < 256 → H i = true → (∃ q c, X i = (A i).to q c) ∧ (X i).m ≤ 4
  yb : ∀ i, 1 ≤ i → i < 256 → K i = true → (∃ q c, Y i = (B i).to q c) ∧ (Y i).m ≤ 4
  la : ∀ i, (A i).lies w0
  lb : ∀ i, (B i).lies w0
/-- The arrays lie apart. -/
structure ArD (w0 : World) (a7 a8 a9 a10 : Nat) : Prop where
  lo : w0.heap.size ≤ a7
  h1 : a7 < a8
  h2 : a8 < a9
  h3 : a9 < a10
section
variable {w0 wr w' : World} {a7 a8 a9 a10 : Nat} {A B X Y : Nat → NdX} {I J H K : Nat → Bool} {g b n : Nat} {D : DataW Value} {go bo no : Nat} {Do : DataW Value}
theorem RunM.arr (M : RunM w0 wr a7 a8 a9 a10 A B X Y I J H K g b n D go bo no Do) : ∀ k, ArS a7 a8 a9 a10 k → k < wr.heap.size := by
  intro k hk
  obtain ⟨_, B7, _⟩ := M.c7
  obtain ⟨_, B8, _⟩ := M.c8
  obtain ⟨_, B9, _⟩ := M.c9
  obtain ⟨_, B10, _⟩ := M.c10
  rcases hk with rfl | rfl | rfl | rfl
  · exact B7.lt
  · exact B8.lt
  · exact B9.lt
  · exact B10.lt
theorem RunM.more (M : RunM w0 wr a7 a8 a9 a10 A B X Y I J H K g b n D go bo no Do) (hb : Below wr.heap.size wr w') : RunM w0 w' a7 a8 a9 a10 A B X Y I J H K g b n D go bo no Do :=
  ⟨M.G.more hb, M.O.more hb, M.bb, M.c7.elim fun C h => ⟨C, h.1.more hb, h.2⟩, M.c8.elim fun C h => ⟨C, h.1.more hb, h.2⟩, M.c9.elim fun C h => ⟨C, h.1.more hb, h.2⟩, M.c10.elim fun C h => ⟨C, h.1.more hb, h.2⟩, M.lo, below2 M.S hb M.S.size⟩
theorem RunM.drew (M : RunM w0 wr a7 a8 a9 a10 A B X Y I J H K g b n D go bo no Do) : RunM w0 wr.drew a7 a8 a9 a10 A B X Y I J H K g b n D go bo no Do := M.more (Below.refl _ _).drew
/-- The first grove is turned by a call. -/
theorem RunM.turned (M : RunM w0 wr a7 a8 a9 a10 A B X Y I J H K g b n D go bo no Do) (S : Sole (fun k => k = b) wr w') {n' : Nat} {D' : DataW Value} {X' : Nat → NdX} {H' : Nat → Bool} (G' : GroveN (ArS a7 a8 a9 a10) w' g b n' D' X' H') : RunM w0 w' a7 a8 a9 a10 A B X' Y I J H' K g b n' D' go bo no Do := by
  have nb := M.G.nb
  have im := M.G.isMap
  exact ⟨G', M.O.kept S (fun k hk => .inr (by
      have hk' : k = b := hk
      subst hk'
      exact ⟨M.bb.1, M.bb.2, im⟩)), M.bb,
    M.c7.elim fun C h => ⟨C, h.1.sole S (fun e => nb (.inl (show b = a7 from e.symm))), h.2⟩,
    M.c8.elim fun C h => ⟨C, h.1.sole S (fun e => nb (.inr (.inl (show b = a8 from e.symm)))), h.2⟩,
    M.c9.elim fun C h => ⟨C, h.1.sole S (fun e => nb (.inr (.inr (.inl (show b = a9 from e.symm))))), h.2⟩,
    M.c10.elim fun C h => ⟨C, h.1.sole S (fun e => nb (.inr (.inr (.inr (show b = a10 from e.symm))))), h.2⟩, M.lo,
    M.S.trans (S.below (B := w0.heap.size) M.S.size (fun k hk => by have := M.lo; have hk' : k = b := hk; omega))⟩
theorem RunM.groves {S : Nat → Prop} (M : RunM w0 wr a7 a8 a9 a10 A B X Y I J H K g b n D go bo no Do) (hs : Sole S wr w') (hS : ∀ k, S k → ArS a7 a8 a9 a10 k) : GroveN (ArS a7 a8 a9 a10) w' g b n D X H ∧ GroveN (ArS a7 a8 a9 a10) w' go bo no Do Y K :=
  ⟨M.G.kept hs (fun k hk => .inl (hS k hk)), M.O.kept hs (fun k hk => .inl (hS k hk))⟩
theorem below_own {S : Nat → Prop} (M : RunM w0 wr a7 a8 a9 a10 A B X Y I J H K g b n D go bo no Do) (d : ArD w0 a7 a8 a9 a10) (hs : Sole S wr w') (hS : ∀ k, S k → ArS a7 a8 a9 a10 k) : Below w0.heap.size w0 w' :=
  M.S.trans (hs.below (B := w0.heap.size) M.S.size (fun k hk => by have := d.lo; have := d.h1; have := d.h2; have := d.h3; rcases hS k hk with q | q | q | q <;> omega))
/-- A node stands in the array. -/
theorem RunM.own (M : RunM w0 wr a7 a8 a9 a10 A B X Y I J H K g b n D go bo no Do) (d : ArD w0 a7 a8 a9 a10) (i : Nat) (hi : i < 256) (x : NdX) : RunM w0 (wr.setCells a7 (i * 11) x.cells) a7 a8 a9 a10 (fun j => if j = i then x else A j) B X Y I J H K g b n D go bo no Do := by
  have S : Sole (fun k => k = a7) wr (wr.setCells a7 (i * 11) x.cells) := by rw [← setAll_eq]; exact sole_setAll (S := fun k => k = a7) rfl _ _ _
  have hS : ∀ k, k = a7 → ArS a7 a8 a9 a10 k := fun k hk => .inl hk
  have hd1 := d.h1
  have hd2 := d.h2
  have hd3 := d.h3
  refine ⟨(M.groves S hS).1, (M.groves S hS).2, M.bb, ?_, M.c8.elim fun C h => ⟨C, h.1.sole S (by show ¬ _; omega), h.2⟩, M.c9.elim fun C h => ⟨C, h.1.sole S (by show ¬ _; omega), h.2⟩, M.c10.elim fun C h => ⟨C, h.1.sole S (by show ¬ _; omega), h.2⟩, M.lo, below_own M d S hS⟩
  obtain ⟨C, B7, N⟩ := M.c7
  refine ⟨_, ?_, N.set i hi x⟩
  rw [← setAll_eq]
  exact Blk.fill x.cells (i * 11) B7 (by rw [N.size]; show i * 11 + 11 ≤ 2816; omega)
/-- Whether one is there. -/
theorem RunM.is (M : RunM w0 wr a7 a8 a9 a10 A B X Y I J H K g b n D go bo no Do) (d : ArD w0 a7 a8 a9 a10) (i : Nat) (hi : i < 256) (v : Bool) : RunM w0 (wr.setCell ⟨a9, i, none⟩ (.bool v)) a7 a8 a9 a10 A B X Y (fun j => if j = i then v else I j) J H K g b n D go bo no Do := by
  have S : Sole (fun k => k = a9) wr (wr.setCell ⟨a9, i, none⟩ (.bool v)) := Sole.setCell wr _ rfl
  have hS : ∀ k, k = a9 → ArS a7 a8 a9 a10 k := fun k hk => .inr (.inr (.inl hk))
  have hd1 := d.h1
  have hd2 := d.h2
  have hd3 := d.h3
  refine ⟨(M.groves S hS).1, (M.groves S hS).2, M.bb, M.c7.elim fun C h => ⟨C, h.1.sole S (by show ¬ _; omega), h.2⟩, M.c8.elim fun C h => ⟨C, h.1.sole S (by show ¬ _; omega), h.2⟩, ?_, M.c10.elim fun C h => ⟨C, h.1.sole S (by show ¬ _; omega), h.2⟩, M.lo, below_own M d S hS⟩
  obtain ⟨C, B9, N⟩ := M.c9
  exact ⟨_, B9.set i (.bool v) (by rw [N.size]; exact hi), N.set i hi v⟩
/-- What is there becomes what was. -/
theorem RunM.was (M : RunM w0 wr a7 a8 a9 a10 A B X Y I J H K g b n D go bo no Do) (d : ArD w0 a7 a8 a9 a10) {C7 C9 : Array Value} (B7 : Blk wr a7 C7) (N7 : NdsC C7 A) (B9 : Blk wr a9 C9) (N9 : BlsC C9 I) : 
    (∃ C, Blk ((wr.setCells a8 0 C7.toList).setCells a10 0 C9.toList) a7 C ∧ NdsC C A) ∧ (∃ C, Blk ((wr.setCells a8 0 C7.toList).setCells a10 0 C9.toList) a8 C ∧ NdsC C A) ∧ (∃ C, Blk ((wr.setCells a8 0 C7.toList).setCells a10 0 C9.toList) a9 C ∧ BlsC C I) ∧ (∃ C, Blk ((wr.setCells a8 0 C7.toList).setCells a10 0 C9.toList) a10 C ∧ BlsC C I) ∧
    GroveN (ArS a7 a8 a9 a10) ((wr.setCells a8 0 C7.toList).setCells a10 0 C9.toList) g b n D X H ∧ Below w0.heap.size w0 ((wr.setCells a8 0 C7.toList).setCells a10 0 C9.toList) := by
  have S1 : Sole (fun k => k = a8 ∨ k = a10) wr (wr.setCells a8 0 C7.toList) := by rw [← setAll_eq]; exact sole_setAll (S := fun k => k = a8 ∨ k = a10) (.inl rfl) _ _ _
  have S2 : Sole (fun k => k = a8 ∨ k = a10) (wr.setCells a8 0 C7.toList) ((wr.setCells a8 0 C7.toList).setCells a10 0 C9.toList) := by rw [← setAll_eq (b := a10)]; exact sole_setAll (S := fun k => k = a8 ∨ k = a10) (.inr rfl) _ _ _
  have S := S1.trans S2
  have hS : ∀ k, (k = a8 ∨ k = a10) → ArS a7 a8 a9 a10 k := fun k hk => hk.elim (fun h => .inr (.inl h)) (fun h => .inr (.inr (.inr h)))
  have hd1 := d.h1
  have hd2 := d.h2
  have hd3 := d.h3
  obtain ⟨C8, B8, N8⟩ := M.c8
  obtain ⟨C10, B10, N10⟩ := M.c10
  refine ⟨⟨C7, B7.sole S (by show ¬ _; omega), N7⟩, ⟨C7, ?_, N7⟩, ⟨C9, B9.sole S (by show ¬ _; omega), N9⟩, ⟨C9, ?_, N9⟩, (M.groves S hS).1, below_own M d S hS⟩
  · exact (B8.whole (by rw [N7.size, N8.size])).beside (by omega) 0 _
  · exact (B10.beside (by omega) 0 C7.toList).whole (by rw [N9.size, N10.size])
end
section
variable {w0 : World} {A B X Y : Nat → NdX} {I J H K : Nat → Bool}
theorem RunR.put (R : RunR w0 A B X Y I J H K) (i : Nat) (x : NdX) (hx : x.lies w0) (hm : x.m ≤ 4) (q : Option Addr) (c : Nat) : RunR w0 (fun j => if j = i then x else A j) B (fun j => if j = i then x.to q c else X j) Y (fun j => if j = i then true else I j) J (fun j => if j = i then true else H j) K := by
  refine ⟨fun j h1 h2 => ?_, R.jk, fun j h1 h2 hh => ?_, R.yb, fun j => ?_, R.lb⟩
  · by_cases e : j = i
    · simp only [if_pos e]
    · simp only [if_neg e]; exact R.hi j h1 h2
  · by_cases e : j = i
    · simp only [if_pos e]; exact ⟨⟨q, c, rfl⟩, hm⟩
    · simp only [if_neg e] at hh ⊢; exact R.xa j h1 h2 hh
  · by_cases e : j = i
    · simp only [if_pos e]; exact hx
    · simp only [if_neg e]; exact R.la j
theorem RunR.drop (R : RunR w0 A B X Y I J H K) (z : Int) (hz : 1 ≤ z ∧ z < 256) : RunR w0 A B X Y (fun j => if j = z.toNat then false else I j) J (fun j => H j && !decide ((j : Int) = z)) K := by
  refine ⟨fun j h1 h2 => ?_, R.jk, fun j h1 h2 hh => ?_, R.yb, R.la, R.lb⟩
  · by_cases e : j = z.toNat
    · simp only [if_pos e]
      rw [decide_eq_true (show (j : Int) = z by omega)]; simp
    · simp only [if_neg e]
      rw [decide_eq_false (show ¬ (j : Int) = z by omega)]; simpa using R.hi j h1 h2
  · simp only [Bool.and_eq_true] at hh
    exact R.xa j h1 h2 hh.1
theorem RunR.none (R : RunR w0 A B X Y I J H K) (z : Int) (hz : ¬ (1 ≤ z ∧ z < 256)) : RunR w0 A B X Y I J (fun j => H j && !decide ((j : Int) = z)) K := by
  refine ⟨fun j h1 h2 => ?_, R.jk, fun j h1 h2 hh => ?_, R.yb, R.la, R.lb⟩
  · rw [decide_eq_false (show ¬ (j : Int) = z by omega)]; simpa using R.hi j h1 h2
  · simp only [Bool.and_eq_true] at hh
    exact R.xa j h1 h2 hh.1
theorem RunR.was (R : RunR w0 A B X Y I J H K) : RunR w0 A A X X I I H H := ⟨R.hi, R.hi, R.xa, R.xa, R.la, R.la⟩
theorem RunR.chg (R : RunR w0 A B X Y I J H K) : ∀ n, n ≤ 256 → chgL X Y H K n = chgL A B I J n
  | 0, _ => rfl
  | n + 1, hn => by
    simp only [chgL]
    rw [R.chg n (by omega)]
    congr 1
    by_cases h0 : n = 0
    · rw [if_pos h0, if_pos h0]
    · rw [if_neg h0, if_neg h0]
      unfold chg1
      rw [R.hi n (by omega) (by omega), R.jk n (by omega) (by omega)]
      cases hH : H n with
      | false => simp
      | true =>
        cases hK : K n with
        | false => simp
        | true =>
          obtain ⟨⟨q, c, hx⟩, _⟩ := R.xa n (by omega) (by omega) hH
          obtain ⟨⟨q', c', hy⟩, _⟩ := R.yb n (by omega) (by omega) hK
          rw [hx, hy, NdX.same_to]
end
end Go.Proofs.Ytghboanmiggcnaa

/-
  A region that draws its order, by what is known as it goes: a condition on which operations are done, their values and the world; each operation keeps it, in whatever order they come.
-/

namespace Go.Proofs.Ytghboanmiggcnaa
open Go.RowKit
set_option linter.unusedVariables false

section
variable {P : Program}

/-- One value more. -/
def fset {α : Type} (f : Nat → α) (j : Nat) (v : α) : Nat → α := fun k => if k = j then v else f k
theorem fset_same {α : Type} (f : Nat → α) (j : Nat) (v : α) : fset f j v j = v := if_pos rfl
theorem fset_ne {α : Type} (f : Nat → α) {j k : Nat} (v : α) (h : k ≠ j) : fset f j v k = f k := if_neg h

def invB (ops : Array Oper) (n m : Nat) : Bool :=
  Region.noSelect ops && decide (n < ops.size) && Region.sinkB .any ops n && Region.chainB .any ops n && soleB ops m &&
    ((List.range n).all fun j => match ops[j]? with
      | none => true
      | some o => o.after.all fun e => !Region.binds .any e || decide (e.on < j)) &&
    Region.seqB .any ops (ops.size - n) n (Array.ofFn fun i : Fin ops.size => decide (i.val < n))

/-- What operation j owes: done in the frame a, in the world w, it leaves some value behind which K holds. -/
def StepOf (P : Program) (ops : Array Oper) (Q : Exit → Act → World → Prop) (o : Oper) (a : Act) (w : World) (K : Value → World → Prop) : Prop :=
  if Region.wanted o (yielded ops a.tmps) = true then Oper.wp P o a w (fun a' w' => ∃ v, a' = a.put o.dst v ∧ K v w') Q else K undef w

theorem wp_region_inv {id : Nat} {Q : Exit → Act → World → Prop} {a0 : Act} {W : World} {l : List Oper} (N : Nat) (I : (Nat → Bool) → (Nat → Value) → World → Prop) (hm : P.follows .mixedOrders = true)
    (hB : invB l.toArray N a0.tmps.size = true)
    (h0 : I (fun _ => false) (fun _ => undef) W.drew)
    (hstep : ∀ (j : Nat) (o : Oper), j < N → l[j]? = some o → ∀ (D : Nat → Bool) (vs : Nat → Value) (a : Act) (w : World), D j = false → (∀ k, Region.waitsFor .any l.toArray j k = true → D k = true) →
      (∀ k t, D k = true → writer l.toArray t = some k → a.tmps[t]? = some (vs k)) → (∀ t, writer l.toArray t = none → a.tmps[t]? = a0.tmps[t]?) → I D vs w →
      StepOf P l.toArray Q o a w (fun v w' => I (fset D j true) (fset vs j v) w'))
    (hend : ∀ (D : Nat → Bool) (vs : Nat → Value) (w : World), (∀ i, i < N → D i = true) → I D vs w → wpList P l.toArray Q (l.drop N) (puts l.toArray vs (List.range N) a0) w) : (Code.region id l.toArray true).wp P Q a0 W := by
  simp only [invB, Bool.and_eq_true, decide_eq_true_eq] at hB
  obtain ⟨⟨⟨⟨⟨⟨hsel, hn⟩, hs⟩, hc⟩, hsole⟩, haft⟩, hseq⟩ := hB
  have hn' : N < l.length := by simpa using hn
  have haft' : ∀ j o, j < N → l.toArray[j]? = some o → ∀ e ∈ o.after, Region.binds .any e = true → e.on < j := by
    intro j o hj ho e he hb
    have := List.all_eq_true.1 haft j (List.mem_range.2 hj)
    simp only [ho] at this
    have := Array.all_eq_true_iff_forall_mem.1 this e he
    simpa [hb] using this
  have lex : ∀ (vs : Nat → Value) (t : Nat), (puts l.toArray vs (List.range N) a0).tmps[t]? = match writer l.toArray t with
      | some k => if k < N then some (vs k) else a0.tmps[t]?
      | none => a0.tmps[t]? := by
    intro vs t
    cases hw : writer l.toArray t with
    | none =>
      refine (puts_get vs t _ _).1 fun i hi hd => ?_
      have hlt : i < l.toArray.size := by have := List.mem_range.1 hi; omega
      have hoi : l.toArray[i]? = some l.toArray[i] := Array.getElem?_eq_getElem hlt
      rw [hoi] at hd
      exact writer_none hw hoi hd
    | some k =>
      obtain ⟨o, ho, hd⟩ := writer_some hw
      have hsole' : ∀ i, i < l.toArray.size → (l.toArray[i]?).bind (·.dst) = some t → i = k := fun i hi hdi => by
        have hoi : l.toArray[i]? = some l.toArray[i] := Array.getElem?_eq_getElem hi
        rw [hoi] at hdi
        have := (sole_dst hsole hoi hdi).1
        rw [hw] at this
        exact (Option.some.inj this).symm
      by_cases hk : k < N
      · simp only [hk, if_true]
        exact (puts_get vs t _ _).2 k (fun i hi hdi => hsole' i (by have := List.mem_range.1 hi; omega) hdi) (List.mem_range.2 hk) (by rw [ho]; exact hd) (sole_dst hsole ho hd).2
      · simp only [hk, if_false]
        refine (puts_get vs t _ _).1 fun i hi hdi => hk ?_
        have h1 := List.mem_range.1 hi
        rw [← hsole' i (by omega) hdi]
        exact h1
  refine wp_region_any hm ?_
  have main : ∀ (fuel : Nat) (L : Array Bool) (a : Act) (w : World) (vs : Nat → Value), Mid l.toArray a0 vs L a → HeadInv .any l.toArray N L → I (fun k => L.getD k false) vs w → L.toList.count false = fuel → wpAny P .any l.toArray Q fuel L a w := by
    intro fuel
    induction fuel with
    | zero =>
      intro L a w vs mid inv hI hcnt
      exfalso
      have h1 := inv.tail N (Nat.le_refl _) hn
      have hl : N < L.size := by rw [inv.size]; exact hn
      have : false ∈ L.toList := by
        have h2 : L[N] = false := by simpa [hl] using h1
        rw [← h2]; simp
      have := List.count_pos_iff.2 this
      omega
    | succ fuel ih =>
      intro L a w vs mid inv hI hcnt
      by_cases hall : ∀ i, i < N → L.getD i false = true
      · have hL : L = Array.ofFn fun i : Fin l.toArray.size => decide (i.val < N) := by
          apply Array.ext
          · simp [inv.size]
          · intro i h1 h2
            have hi : i < l.toArray.size := by rw [← inv.size]; exact h1
            simp only [Array.getElem_ofFn]
            by_cases hin : i < N
            · have := hall i hin
              simp [h1] at this
              simp [hin, this]
            · have := inv.tail i (by omega) hi
              simp [h1] at this
              simp [hin, this]
        have ha : a = puts l.toArray vs (List.range N) a0 := by
          have e1 : a.tmps = (puts l.toArray vs (List.range N) a0).tmps := by
            apply Array.ext_getElem?
            intro t
            rw [mid.slot t, lex vs t]
            cases hw : writer l.toArray t with
            | none => rfl
            | some k =>
              simp only []
              by_cases hk : k < N
              · rw [if_pos (hall k hk), if_pos hk]
              · rw [if_neg hk, if_neg]
                obtain ⟨o, ho, _⟩ := writer_some hw
                have := getD_both (inv.tail k (by omega) (Array.getElem?_eq_some_iff.1 ho).1)
                rw [this]; simp
          have e2 : a.defers = (puts l.toArray vs (List.range N) a0).defers := by rw [mid.defers]; exact (puts_defers vs _ _).symm
          cases a
          cases hp : puts l.toArray vs (List.range N) a0
          simp only [hp] at e1 e2
          subst e1 e2
          rfl
        have hfin := hend _ vs w hall hI
        have hcnt2 : fuel + 1 = (l.drop N).length := by
          rw [← hcnt, hL]
          simp only [Array.toList_ofFn, List.length_drop]
          have gen : ∀ (m n : Nat), ((List.ofFn fun i : Fin m => decide (i.val < n)).count false) = m - n := by
            intro m
            induction m with
            | zero => intro n; simp
            | succ m ihm =>
              intro n
              cases n with
              | zero =>
                have := ihm 0
                simp [List.ofFn_succ] at this ⊢
                omega
              | succ n =>
                have := ihm n
                simp [List.ofFn_succ] at this ⊢
                omega
          simpa using gen l.toArray.size N
        rw [hcnt2]
        refine wpAny_of_seq (md := .any) (l.drop N) N L a w (fun j => by simp [List.getElem?_drop]) ?_ ?_
        · rw [hL]
          have e : (l.drop N).length = l.toArray.size - N := by simp
          rw [e]; exact hseq
        · rw [ha]; exact hfin
      · have hex : ∃ i, i < N ∧ L.getD i true = false := by
          refine Classical.byContradiction fun hno => hall fun i hi => ?_
          cases hg : L.getD i true with
          | false => exact absurd ⟨i, hi, hg⟩ hno
          | true =>
            have hl : i < L.size := by rw [inv.size]; omega
            simp [hl] at hg ⊢
            exact hg
        obtain ⟨i0, hi0, hun0⟩ := hex
        have hready : ∀ j ∈ Region.ready .any l.toArray L, j < N := fun j hj => by
          rcases Nat.lt_or_ge j N with h | h
          · exact h
          · exact absurd hj (tail_waits hs hc hn inv _ i0 rfl hi0 hun0 j h)
        have hne : Region.ready .any l.toArray L ≠ [] := by
          intro hnil
          have hl : ∀ j, j < N → L.getD j false = true := by
            intro j
            induction j using Nat.strongRecOn with
            | _ j ihj =>
              intro hj
              cases hlj : L.getD j false with
              | true => rfl
              | false =>
                exfalso
                have hjo : j < l.toArray.size := by omega
                have hoj : l.toArray[j]? = some l.toArray[j] := Array.getElem?_eq_getElem hjo
                have : j ∈ Region.ready .any l.toArray L := mem_ready.2 ⟨getD_in (by rw [inv.size]; exact hjo) hlj, _, hoj, fun e he hb => by
                  have := haft' j _ hj hoj e he hb
                  exact ihj e.on this (by omega)⟩
                rw [hnil] at this
                cases this
          exact hall hl
        refine ⟨fun hr => absurd hr hne, fun j hj => ?_⟩
        have hjn := hready j hj
        obtain ⟨hun, o, ho, hpre⟩ := mem_ready.1 hj
        have hjs : j < L.size := by rw [inv.size]; omega
        have hcnt' : (L.setIfInBounds j true).toList.count false = fuel := by
          have := count_set L.toList j (by simp [hjs] at hun ⊢; exact hun)
          simp only [Array.toList_setIfInBounds]
          omega
        have eD : (fun k => (L.setIfInBounds j true).getD k false) = fset (fun k => L.getD k false) j true := by
          funext k
          by_cases hk : k = j
          · subst hk; rw [fset_same]; simp [hjs]
          · rw [fset_ne _ _ hk, getD_set_ne false (fun e => hk e.symm)]
        have next : ∀ v w', I (fset (fun k => L.getD k false) j true) (fset vs j v) w' → wpAny P .any l.toArray Q fuel (L.setIfInBounds j true) (a.put o.dst v) w' := by
          intro v w' hI'
          refine ih _ _ _ (fset vs j v) ?_ (inv.set hj hjn) (by rw [eD]; exact hI') hcnt'
          refine ⟨by rw [put_defers]; exact mid.defers, by rw [put_size]; exact mid.size, fun t => ?_⟩
          rw [put_get]
          by_cases hd : o.dst = some t
          · obtain ⟨hw, ht⟩ := sole_dst hsole ho hd
            rw [if_pos ⟨hd, by rw [mid.size]; exact ht⟩, hw]
            simp [hjs, fset_same]
          · rw [if_neg (fun h => hd h.1), mid.slot t]
            cases hw : writer l.toArray t with
            | none => rfl
            | some k =>
              have hkj : j ≠ k := by
                rintro rfl
                obtain ⟨o', ho', hd'⟩ := writer_some hw
                rw [ho] at ho'; cases ho'
                exact hd hd'
              simp only []
              rw [getD_set_ne false hkj, fset_ne _ _ (fun e => hkj e.symm)]
        have hst := hstep j o hjn (by simpa using ho) (fun k => L.getD k false) vs a w (getD_both hun) (fun k hk => by
          obtain ⟨oj, hoj, e, he, hb, hon⟩ := Region.waitsFor_spec hk
          have : oj = o := Option.some.inj (hoj.symm.trans ho)
          subst this
          exact hon ▸ hpre e he hb) (fun k t hk hw => by rw [mid.slot t, hw]; simp only [hk, if_true]) (fun t hw => by rw [mid.slot t, hw]) hI
        unfold wpOp
        simp only [ho]
        unfold StepOf at hst
        by_cases hwt : Region.wanted o (yielded l.toArray a.tmps) = true
        · rw [if_pos hwt] at hst ⊢
          left
          refine Oper.wp_mono ?_ hst
          rintro a' w' ⟨v, rfl, hI'⟩
          exact next v w' hI'
        · rw [if_neg hwt] at hst ⊢
          exact next undef w hst
  refine main l.toArray.size _ a0 W.drew (fun _ => undef) ⟨rfl, rfl, fun t => ?_⟩ ⟨by simp, fun j oj _ hl => (by rw [getD_replicate_false] at hl; cases hl), fun t _ ht => getD_in (by simpa using ht) (getD_replicate_false _ _)⟩ ?_ (by simp)
  · cases hw : writer l.toArray t with
    | none => rfl
    | some k => simp only [getD_replicate_false]; simp
  · have e : (fun k => (Array.replicate l.toArray.size false).getD k false) = fun _ => false := by funext k; exact getD_replicate_false _ _
    rw [e]; exact h0
variable {ops : Array Oper} {Q : Exit → Act → World → Prop}
theorem wanted_plain {o : Oper} (hg : o.guard = none) (y : Nat → Option Bool) : Region.wanted o y = true := by simp [Region.wanted, hg]
theorem StepOf.value {o : Oper} {a : Act} {w w' : World} {K : Value → World → Prop} (v : Value) (hw : Region.wanted o (yielded ops a.tmps) = true) (hr : (execOp a.eval o).run P w = .ok (.value v) w') (h : K v w') : StepOf P ops Q o a w K := by
  unfold StepOf
  rw [if_pos hw]
  unfold Oper.wp
  rw [hr, Oper.upon_value]
  exact ⟨v, rfl, h⟩
theorem StepOf.skip {o : Oper} {a : Act} {w w' : World} {K : Value → World → Prop} (hw : Region.wanted o (yielded ops a.tmps) = true) (hr : (execOp a.eval o).run P w = .ok .skip w') (h : K undef w') : StepOf P ops Q o a w K := by
  unfold StepOf
  rw [if_pos hw]
  unfold Oper.wp
  rw [hr, Oper.upon_skip]
  exact ⟨undef, rfl, h⟩
theorem StepOf.call {o : Oper} {a : Act} {w : World} {K : Value → World → Prop} (f : FuncId) (args : Array Value) (hw : Region.wanted o (yielded ops a.tmps) = true) (hr : (execOp a.eval o).run P w = .ok (.enter f args) w)
    (h : Calls P f args w fun e w' => ∃ v, e = .returned v ∧ K v w') : StepOf P ops Q o a w K := by
  unfold StepOf
  rw [if_pos hw]
  unfold Oper.wp
  rw [hr, Oper.upon_enter]
  refine h.mono ?_
  rintro e w' ⟨v, rfl, hK⟩
  exact ⟨v, rfl, hK⟩
theorem StepOf.kept {o : Oper} {a : Act} {w : World} {K : Value → World → Prop} (hw : Region.wanted o (yielded ops a.tmps) = false) (h : K undef w) : StepOf P ops Q o a w K := by
  unfold StepOf
  rw [if_neg (by rw [hw]; simp)]
  exact h
/-- What a frame holds, as an operation reads it. -/
theorem eval_of {a : Act} {t : Tmp} {v : Value} (h : a.tmps[t]? = some v) : a.eval (.tmp t) = v := by simp [Act.eval, h]

/-- Those done have the values of a table. -/
def Vals (V : Nat → Option Value) (D : Nat → Bool) (vs : Nat → Value) : Prop := ∀ k v, D k = true → V k = some v → vs k = v
theorem Vals.nil {V : Nat → Option Value} : Vals V (fun _ => false) (fun _ => undef) := fun k v h => by cases h
theorem Vals.set {V : Nat → Option Value} {D : Nat → Bool} {vs : Nat → Value} (h : Vals V D vs) (j : Nat) (v : Value) (hv : ∀ u, V j = some u → v = u) : Vals V (fset D j true) (fset vs j v) := by
  intro k u hD hV
  by_cases hk : k = j
  · subst hk; rw [fset_same]; exact hv u hV
  · rw [fset_ne _ _ hk] at hD ⊢; exact h k u hD hV
/-- What an operation reads of one that is done; of what stood there ahead of the region. -/
theorem at_done {V : Nat → Option Value} {D : Nat → Bool} {vs : Nat → Value} {a : Act} (H : Vals V D vs) (hv : ∀ k t, D k = true → writer ops t = some k → a.tmps[t]? = some (vs k)) {k : Nat} (hk : D k = true) (t : Tmp) (hw : writer ops t = some k) {v : Value} (hV : V k = some v) : a.tmps[t]?.getD undef = v := by
  rw [hv k t hk hw, H k v hk hV]; rfl
theorem at_base {a a0 : Act} (hb : ∀ t, writer ops t = none → a.tmps[t]? = a0.tmps[t]?) (t : Tmp) (hw : writer ops t = none) {v : Value} (h0 : a0.tmps[t]? = some v) : a.tmps[t]?.getD undef = v := by
  rw [hb t hw, h0]; rfl
theorem eval_get {a : Act} {t : Tmp} {v : Value} (h : a.tmps[t]?.getD undef = v) : a.eval (.tmp t) = v := by simp [Act.eval, h]
end
end Go.Proofs.Ytghboanmiggcnaa

/-
  Layer 22: the law's arrays, as they are made.
-/



namespace Go.Proofs.Ytghboanmiggcnaa
open Go.RowKit Go.Maps Go.Shelf
set_option linter.unusedVariables false
set_option linter.unusedSimpArgs false

def zeros22 : Array Value := (List.replicate 256 NdX.zero.cells).flatten.toArray
def falses22 : Array Value := Array.replicate 256 (.bool false)
theorem tabN22 : (Try.prog.info? 30).map (·.size) = some 2816 := by kernel_rfl
theorem tabB22 : (Try.prog.info? 31).map (·.size) = some 256 := by kernel_rfl
theorem tabO22 : (Try.prog.info? 33).map (·.size) = some 13 := by kernel_rfl
theorem tabE22 : (Try.prog.info? 29).map (·.size) = some 11 := by kernel_rfl
set_option maxRecDepth 1000000 in
theorem zeroB22 : Try.zeroCells31 = falses22 := by kernel_rfl
set_option maxRecDepth 1000000 in
theorem zeroN22 : Try.zeroCells30 = zeros22 := by kernel_rfl
theorem flat_get (vs : List Value) (hv : vs.length = 11) : ∀ n i, i < n → ∀ j, j < 11 → ((List.replicate n vs).flatten)[i * 11 + j]? = vs[j]?
  | 0, i, hi, _, _ => absurd hi (Nat.not_lt_zero _)
  | n + 1, 0, hi, j, hj => by
    rw [List.replicate_succ, List.flatten_cons, List.getElem?_append_left (by omega), Nat.zero_mul, Nat.zero_add]
  | n + 1, i + 1, hi, j, hj => by
    rw [List.replicate_succ, List.flatten_cons, List.getElem?_append_right (by omega), show (i + 1) * 11 + j - vs.length = i * 11 + j by omega]
    exact flat_get vs hv n i (by omega) j hj
theorem flat_len (vs : List Value) (hv : vs.length = 11) : ∀ n, ((List.replicate n vs).flatten).length = n * 11
  | 0 => rfl
  | n + 1 => by rw [List.replicate_succ, List.flatten_cons, List.length_append, hv, flat_len vs hv n]; omega
theorem zeros22_nds : NdsC zeros22 (fun _ => NdX.zero) := by
  refine ⟨?_, fun i hi j v hv => ?_⟩
  · unfold zeros22
    rw [List.size_toArray]
    exact flat_len _ rfl 256
  · have hj : j < 11 := (List.getElem?_eq_some_iff.1 hv).1
    unfold zeros22
    rw [List.getElem?_toArray, flat_get _ rfl 256 i hi j hj]
    exact hv
theorem falses22_bls : BlsC falses22 (fun _ => false) := bls_rep
theorem kind_way (c : Int) : ∃ r : Int, (r = 0 ∨ r = 1 ∨ r = 2) ∧ IntKind.i64.wrap (c.tmod 3 + 3) = c.tmod 3 + 3 ∧ wrap64 (c.tmod 3 + 3) = c.tmod 3 + 3 ∧ (c.tmod 3 + 3) % 3 = r ∧ (c.tmod 3 + 3).tmod 3 = r := by
  have b1 := Int.tmod_lt_of_pos c (show (0 : Int) < 3 by decide)
  have b2 := Int.lt_tmod_of_pos c (show (0 : Int) < 3 by decide)
  have e : wrap64 (c.tmod 3 + 3) = c.tmod 3 + 3 := IntWalk.wrap64_in _ ⟨by omega, by omega⟩
  refine ⟨(c.tmod 3 + 3) % 3, by omega, (IntWalk.i64_left _).trans e, e, rfl, Int.tmod_eq_emod_of_nonneg (by omega)⟩
theorem grwp_loadAt {P : Program} {op : Oper} {a : Act} {w : World} {K : Act → World → Prop} {Q : Exit → Act → World → Prop} (ty : TypeId) (x : Operand) (ho : op.op = .load ty x)
    (b o : Nat) (hx : a.eval x = .pointer (some ⟨b, o, none⟩)) (c : Array Value) (d : TypeDesc) (B : w.rangeAt b o c.toList)
    (hu : P.underlying ty = some d) (hd : d.isRow = true) (hi : (P.info? ty).map (·.size) = some c.size)
    (h : K (a.put op.dst (.agg c)) w) : op.wp P a w K Q :=
  wp_load_mid ty x ho b o hx c.toList d B hu hd (by rw [hi]; simp) (by rw [Array.toArray_toList]; exact h)
theorem grwpList_loadAt {P : Program} {ops : Array Oper} {rest : List Oper} {op : Oper} {a : Act} {w : World} {Q : Exit → Act → World → Prop} (hgd : op.guard = none) (ty : TypeId) (x : Operand) (ho : op.op = .load ty x)
    (b o : Nat) (hx : a.eval x = .pointer (some ⟨b, o, none⟩)) (c : Array Value) (d : TypeDesc) (B : w.rangeAt b o c.toList)
    (hu : P.underlying ty = some d) (hd : d.isRow = true) (hi : (P.info? ty).map (·.size) = some c.size)
    (h : wpList P ops Q rest (a.put op.dst (.agg c)) w) : wpList P ops Q (op :: rest) a w :=
  wpList_plain hgd fun _ hK => grwp_loadAt ty x ho b o hx c d B hu hd hi (hK _ _ h)
theorem grun_load_at {P : Program} (ρ : Operand → Value) (op : Oper) (w : World) (ty : TypeId) (x : Operand) (ho : op.op = .load ty x)
    (b o : Nat) (hx : ρ x = .pointer (some ⟨b, o, none⟩)) (c : Array Value) (d : TypeDesc) (B : w.rangeAt b o c.toList)
    (hu : P.underlying ty = some d) (hd : d.isRow = true) (hi : (P.info? ty).map (·.size) = some c.size) :
    (execOp ρ op).run P w = .ok (.value (.agg c)) w := by
  unfold execOp
  simp only [ho, hx, Instr.loadAt, Instr.sureAddr, Sem.run_bind, Sem.run_pure, Result.andThen_ok, run_loadVar_mid w b o ty c.toList d B hu hd (by rw [hi]; simp), Array.toArray_toList]
theorem grun_store_at {P : Program} (ρ : Operand → Value) (op : Oper) (w : World) (ty : TypeId) (x y : Operand) (ho : op.op = .store ty x y)
    (b o : Nat) (c : Array Value) (hx : ρ x = .pointer (some ⟨b, o, none⟩)) (hy : ρ y = .agg c) (ht : w.there b o c.size) (hi : (P.info? ty).map (·.size) = some c.size) (h1 : c.all (·.oneCell') = true) :
    (execOp ρ op).run P w = .ok .skip (w.setCells b o c.toList) := by
  unfold execOp
  simp only [ho, hx, hy, Instr.storeAt, Instr.sureAddr, Sem.run_bind, Sem.run_pure, Result.andThen_ok, run_storeVar_mid w b o ty c ht hi h1]
/-- Of several operations one alone turns the world. -/
structure IW (s : Nat) (W Wm : World) (V : Nat → Option Value) (D : Nat → Bool) (vs : Nat → Value) (w : World) : Prop where
  vals : Vals V D vs
  now : w = if D s = true then Wm else W
theorem IW.quiet {s : Nat} {W Wm : World} {V : Nat → Option Value} {D : Nat → Bool} {vs : Nat → Value} {w : World} (h : IW s W Wm V D vs w) (j : Nat) (v : Value) (hj : j ≠ s) (hv : V j = some v) : IW s W Wm V (fset D j true) (fset vs j v) w :=
  ⟨h.vals.set j v (fun u hu => Option.some.inj (hv.symm.trans hu)), by rw [fset_ne D true (show s ≠ j from fun e => hj e.symm)]; exact h.now⟩
theorem IW.done {s : Nat} {W Wm : World} {V : Nat → Option Value} {D : Nat → Bool} {vs : Nat → Value} {w : World} (h : IW s W Wm V D vs w) (hV : V s = none) : IW s W Wm V (fset D s true) (fset vs s undef) Wm :=
  ⟨h.vals.set s undef (fun u hu => by rw [hV] at hu; cases hu), by rw [fset_same]; rfl⟩
theorem IW.ahead {s : Nat} {W Wm : World} {V : Nat → Option Value} {D : Nat → Bool} {vs : Nat → Value} {w : World} (h : IW s W Wm V D vs w) (hD : D s = false) : w = W := by
  have := h.now
  rw [hD] at this
  exact this
theorem IW.at {s : Nat} {W Wm : World} {V : Nat → Option Value} {D : Nat → Bool} {vs : Nat → Value} {w : World} (h : IW s W Wm V D vs w) {R : World → Prop} (h1 : R W) (h2 : R Wm) : R w := by
  rw [h.now]
  split
  · exact h2
  · exact h1
theorem RunR.dropN {w0 : World} {A B X Y : Nat → NdX} {I J H K : Nat → Bool} (R : RunR w0 A B X Y I J H K) (k : Nat) (h1 : 1 ≤ k) (h2 : k < 256) : RunR w0 A B X Y (fun j => if j = k then false else I j) J (fun j => H j && !decide ((j : Int) = (k : Int))) K := by
  have := R.drop (k : Int) ⟨by omega, by omega⟩
  simpa only [Int.toNat_natCast] using this
theorem opg_tail (o : OpG) (j : Nat) (v : Value) (h : o.x.cells.toArray.toList[j]? = some v) : (OpG.cells o).toArray[2 + j]? = some v := by
  rw [show 2 + j = j + 1 + 1 by omega, List.getElem?_toArray]
  exact h
theorem NdX.one (x : NdX) : x.cells.toArray.all (·.oneCell') = true := by simp [NdX.cells, ndl, Value.oneCell']
theorem there_at {w : World} {a : Nat} {C : Array Value} (B : Blk w a C) {o n : Nat} (h : o + n ≤ C.size) : w.there a o n := fun j hj => by
  have := B.there (n := C.size) rfl (o + j) (by omega)
  rwa [Nat.zero_add] at this
/-- Of several operations none turns what is there. -/
structure IB (W : World) (V : Nat → Option Value) (D : Nat → Bool) (vs : Nat → Value) (w : World) : Prop where
  vals : Vals V D vs
  low : Below W.heap.size W w
theorem IB.quiet {W : World} {V : Nat → Option Value} {D : Nat → Bool} {vs : Nat → Value} {w : World} (h : IB W V D vs w) (j : Nat) (v : Value) (hv : V j = some v) : IB W V (fset D j true) (fset vs j v) w :=
  ⟨h.vals.set j v (fun u hu => Option.some.inj (hv.symm.trans hu)), h.low⟩
theorem IB.called {W : World} {V : Nat → Option Value} {D : Nat → Bool} {vs : Nat → Value} {w w' : World} (h : IB W V D vs w) (j : Nat) (v : Value) (hv : V j = some v) (hb : Below w.heap.size w w') : IB W V (fset D j true) (fset vs j v) w' :=
  ⟨h.vals.set j v (fun u hu => Option.some.inj (hv.symm.trans hu)), below2 h.low hb h.low.size⟩
theorem wanted_on9 {ops : Array Oper} {o : Oper} {tm : Array Value} {j : Nat} {t : Tmp} {b : Bool} (hg : o.guard = some (j, b)) (hd : (ops[j]?).bind (·.dst) = some t) (hv : tm[t]?.getD undef = .bool b) : Region.wanted o (yielded ops tm) = true := by
  have h : tm[t]? = some (.bool b) := by
    cases e : tm[t]? with
    | none => rw [e] at hv; cases hv
    | some v => rw [e] at hv; exact congrArg some hv
  simp [Region.wanted, hg, yielded, hd, h]
theorem wanted_off9 {ops : Array Oper} {o : Oper} {tm : Array Value} {j : Nat} {t : Tmp} {b : Bool} {u : Value} (hg : o.guard = some (j, b)) (hd : (ops[j]?).bind (·.dst) = some t) (hv : tm[t]?.getD undef = u) (hu : u = .bool (!b) ∨ u = undef) : Region.wanted o (yielded ops tm) = false := by
  have h : tm[t]? = some (.bool (!b)) ∨ tm[t]? = some undef ∨ tm[t]? = none := by
    cases e : tm[t]? with
    | none => exact .inr (.inr rfl)
    | some v =>
      rw [e] at hv
      have hv' : v = u := hv
      rcases hu with h | h
      · exact .inl (by rw [hv', h])
      · exact .inr (.inl (by rw [hv', h]))
  rcases h with h | h | h <;> cases b <;> simp [Region.wanted, hg, yielded, hd, h, undef]
def tabPut (p12 a7 a9 k : Nat) (x : NdX) : Nat → Option Value
  | 0 => some (.pointer (some ⟨p12, 1, none⟩))
  | 1 => some (.int .i64 (k : Int))
  | 2 => some (.pointer (some ⟨p12, 1, none⟩))
  | 3 => some (.int .i64 (k : Int))
  | 4 => some (.pointer (some ⟨p12, 2, none⟩))
  | 5 => some x.val
  | 6 => some (.pointer (some ⟨a7, k * 11, none⟩))
  | 8 => some (.pointer (some ⟨a9, k, none⟩))
  | _ => none
def tabWas (gg : Nat) (C7 C9 : Array Value) : Nat → Option Value
  | 0 => some (.pointer (some ⟨gg, 0, none⟩))
  | 1 => some (.agg C7)
  | 2 => some (.agg C9)
  | 3 => some (.pointer (some ⟨gg, 0, none⟩))
  | _ => none
theorem RunM.cloned {w0 w8 w9 : World} {a7 a8 a9 a10 : Nat} {A X : Nat → NdX} {I H : Nat → Bool} {g b n : Nat} {D : DataW Value}
    (h7 : ∃ C, Blk w8 a7 C ∧ NdsC C A) (h8 : ∃ C, Blk w8 a8 C ∧ NdsC C A) (h9 : ∃ C, Blk w8 a9 C ∧ BlsC C I) (h10 : ∃ C, Blk w8 a10 C ∧ BlsC C I) (G : GroveN (ArS a7 a8 a9 a10) w8 g b n D X H) (S : Below w0.heap.size w0 w8)
    {g2 b2 : Nat} (G2 : GroveN (ArS a7 a8 a9 a10) w9 g2 b2 n D X H) (hb : Below w8.heap.size w8 w9) (hlo : w8.heap.size ≤ b2) : RunM w0 w9 a7 a8 a9 a10 A A X X I I H H g2 b2 n D g b n D := by
  have l1 := G.m.blk.lt
  have l2 := G.m.own.lt
  have l3 := S.size
  exact ⟨G2, G.more hb, ⟨by omega, by omega⟩, h7.elim fun C h => ⟨C, h.1.more hb, h.2⟩, h8.elim fun C h => ⟨C, h.1.more hb, h.2⟩, h9.elim fun C h => ⟨C, h.1.more hb, h.2⟩, h10.elim fun C h => ⟨C, h.1.more hb, h.2⟩, by omega, below2 S hb S.size⟩
end Go.Proofs.Ytghboanmiggcnaa

/-
  GroveRuns: its end: what became other, what is fresh, what is there. The walk.
-/

namespace Go.Proofs.Ytghboanmiggcnaa
open Go.RowKit Go.Maps Go.Shelf Go.Sort
set_option linter.unusedVariables false
set_option linter.unusedSimpArgs false

/-- The code from a region on. -/
def codeFrom22 (n : Nat) : Code → Option Code
  | .seq (.region m o d) b => if m = n then some (.seq (.region m o d) b) else codeFrom22 n b
  | .seq _ b => codeFrom22 n b
  | _ => none
noncomputable def endC47 : Code := ((Try.f3.body.bind (codeFrom22 47)).getD .skip)
def enSame (a b a' b' : Int) : Bool := decide (a = a') && decide (b = b')
@[go_sem high] theorem gneq_en (a b a' b' : Int) (w : World) : (binOp .neq 42 (.agg #[.int .i64 a, .int .i64 b]) (.agg #[.int .i64 a', .int .i64 b'])).run Try.prog w = .ok (.bool (!enSame a b a' b')) w := by
  rw [run_neq_struct]
  by_cases h1 : a = a' <;> by_cases h2 : b = b' <;> simp [go_sem, enSame, h1, h2]
theorem enSame_self (a b : Int) : enSame a b a b = true := by simp [enSame]
/-- The Ids that are there, below n. -/
def idsB (I : Nat → Bool) (n : Nat) : List Int := idsN n (fun k => decide (1 ≤ k) && I k)
theorem ids_of {Ar : Nat → Prop} {w : World} {g b n : Nat} {D : DataW Value} {X : Nat → NdX} {H I : Nat → Bool} (G : GroveN Ar w g b n D X H) (hn : n ≤ 1000000) (hI : ∀ i, 1 ≤ i → i < 256 → I i = H i) : Calls Try.prog 16 #[.pointer (some ⟨g, 0, none⟩)] w fun e w' => (∃ q c, e = .returned (.slice q (idsB I 256).length c) ∧ (idsB I 256).length ≤ c ∧ c ≤ maxLen ∧ RowP w' q 1 (idsB I 256).length (fun i => [.int .i64 (inAt (idsB I 256) i)])) ∧ Below w.heap.size w w' := by
  refine (gids_sorted g b n D w G.m hn).mono ?_
  rintro e w' ⟨v, ss, rfl, hp, hrow, hnil, hb⟩
  have hk := ids_keys G.m.own 256 (by omega) (fun k => decide (1 ≤ k) && I k) (fun z hz => by
    rw [G.has z hz]
    by_cases hr : 1 ≤ z ∧ z < 256
    · rw [decide_eq_true hr, hI z.toNat (by omega) (by omega)]
      have h1 : decide (0 ≤ z ∧ z < ((256 : Nat) : Int)) = true := decide_eq_true (by omega)
      have h2 : decide (1 ≤ z.toNat) = true := decide_eq_true (by omega)
      rw [h1, h2]
      simp
    · rw [decide_eq_false hr, Bool.false_and]
      symm
      rw [Bool.and_eq_false_iff]
      by_cases h0 : 0 ≤ z ∧ z < ((256 : Nat) : Int)
      · right
        rw [Bool.and_eq_false_iff]
        exact .inl (decide_eq_false (by omega))
      · exact .inl (decide_eq_false h0)) ss hp
  have he : ss.mergeSort leI = idsB I 256 := hk.1
  have hl : ss.length = (idsB I 256).length := hk.2
  rw [he, hl] at hrow
  have O : RowOwn inT w' w.heap.size v (idsB I 256) := by
    have hf : ∀ l : List Int, flatR inT l = l.map encZ := fun l => by
      induction l with
      | nil => rfl
      | cons x l ih => unfold flatR at ih ⊢; rw [List.flatMap_cons, ih]; rfl
    unfold RowOwn
    rw [hf]
    exact hrow
  obtain ⟨p, c, rfl, h1, h2, R⟩ := RowOwn.open inOk O
  exact ⟨⟨p, c, rfl, h1, h2, R⟩, hb⟩

set_option maxRecDepth 100000 in
set_option maxHeartbeats 8000000 in
theorem groveEndC {R : Ending → World → Prop} (w0 W wc : World) (a7 a8 a9 a10 : Nat) (A B X Y : Nat → NdX) (I J H K : Nat → Bool) (gg b n : Nat) (D : DataW Value) (oo bo no : Nat) (Do : DataW Value) (hn : n ≤ 40) (M5 : Hid (RunM w0 wc a7 a8 a9 a10 A B X Y I J H K gg b n D oo bo no Do)) (hRR : Hid (RunR w0 A B X Y I J H K))
    (v16 v18 : Value) (v : Nat) (base : Nat) (hO16 : Hid (RowOwn inT W base v16 (idsB I 256))) (hFh : Hid (FreshAt I 256 v)) (hO18 : Hid (RowOwn enT W base v18 (chgL A B I J 256))) (D5 : Hid (Below W.heap.size W wc)) (hR : Hid (∀ w', Below w0.heap.size w0 w' → R (.returned (.bool true)) w'))
    {u0 u1 u2 u3 u4 u7 u8 u9 u10 u11 u12 u13 u14 u15 u19 u20 u21 u22 u23 u24 u25 u26 u27 u28 u29 u30 u31 u32 u33 u34 u35 u36 u37 u38 u39 u40 u41 u42 u43 u44 u45 u46 u47 u48 u49 u50 u51 u52 u53 u54 u55 u56 u57 u58 u59 u60 u61 u62 u63 u64 u65 u66 u67 u68 u69 u70 u71 u72 u73 u74 u75 u76 u77 u78 u79 u80 u81 u82 u83 u84 u85 u86 u87 u88 u89 u90 u91 u92 u93 u94 u95 u96 u97 u98 u99 u100 u101 u102 u103 u104 u105 u106 u107 u108 u109 u110 u111 u112 u113 u114 u115 u116 u117 u118 u119 u120 u121 u122 u123 u124 u125 u126 u127 u128 u129 u130 u131 u132 u133 u134 u135 u136 u137 u138 u139 u140 u141 u142 u143 u144 u145 u146 u147 u148 u149 u150 u151 u152 u153 u154 u155 u156 u157 u158 u159 u160 u161 u162 u163 u164 u165 u166 u167 u168 u169 u170 u171 u172 u173 u174 u175 u176 u177 u178 u179 u180 u181 u182 u183 u184 u185 u186 u187 u188 u189 u190 u191 u192 u193 u194 u195 u196 u197 u198 u199 u200 u201 u202 u203 u204 u205 u206 u207 u208 u209 u210 u211 u212 u213 u214 u215 u216 u217 u218 u219 u220 u221 u222 u223 u224 u225 u226 u227 u228 u229 u230 u231 u232 u233 u234 u235 u236 u237 u238 u239 u240 u241 u242 u243 u244 u245 u246 u247 u248 u249 u250 u251 u252 u253 u254 u255 u256 u257 u258 u259 u260 u261 u262 u263 u264 u265 u266 u267 : Value} :
    Code.wp Try.prog endC47 (bodyPost Try.prog Try.f3 R) ⟨#[u0, u1, u2, u3, u4, .pointer (some ⟨gg, 0, none⟩), .pointer (some ⟨oo, 0, none⟩), u7, u8, u9, u10, u11, u12, u13, u14, u15, v16, .int .i64 (v : Int), v18, u19, u20, u21, u22, u23, u24, u25, u26, u27, u28, u29, u30, u31, u32, u33, u34, u35, u36, u37, u38, u39, u40, u41, u42, u43, u44, u45, u46, u47, u48, u49, u50, u51, u52, u53, u54, u55, u56, u57, u58, u59, u60, u61, u62, u63, u64, u65, u66, u67, u68, u69, u70, u71, u72, u73, u74, u75, u76, u77, u78, u79, u80, u81, u82, u83, u84, u85, u86, u87, u88, u89, u90, u91, u92, u93, u94, u95, u96, u97, u98, u99, u100, u101, u102, u103, u104, u105, u106, u107, u108, u109, u110, u111, u112, u113, u114, u115, u116, u117, u118, u119, u120, u121, u122, u123, u124, u125, u126, u127, u128, u129, u130, u131, u132, u133, u134, u135, u136, u137, u138, u139, u140, u141, u142, u143, u144, u145, u146, u147, u148, u149, u150, u151, u152, u153, u154, u155, u156, u157, u158, u159, u160, u161, u162, u163, u164, u165, u166, u167, u168, u169, u170, u171, u172, u173, u174, u175, u176, u177, u178, u179, u180, u181, u182, u183, u184, u185, u186, u187, u188, u189, u190, u191, u192, u193, u194, u195, u196, u197, u198, u199, u200, u201, u202, u203, u204, u205, u206, u207, u208, u209, u210, u211, u212, u213, u214, u215, u216, u217, u218, u219, u220, u221, u222, u223, u224, u225, u226, u227, u228, u229, u230, u231, u232, u233, u234, u235, u236, u237, u238, u239, u240, u241, u242, u243, u244, u245, u246, u247, u248, u249, u250, u251, u252, u253, u254, u255, u256, u257, u258, u259, u260, u261, u262, u263, u264, u265, u266, u267], []⟩ wc := by
  conv => arg 2; whnf
  have hF9 := hid (fun u (h : FreshAt H 256 u) => (h.congr hRR.out.hi).eq hFh.out)
  have KC := gchangedN M5.out.G M5.out.O
  rw [hRR.out.chg 256 (Nat.le_refl _)] at KC
  have hlen := hid (chgL_len A B I J 256)
  obtain ⟨Li, hLi⟩ : ∃ L, L = idsB I 256 := ⟨_, rfl⟩
  have hIds := hid (fun (w : World) (n : Nat) (D : DataW Value) (hn : n ≤ 1000000) (G : GroveN (ArS a7 a8 a9 a10) w gg b n D X H) => by
    have h := ids_of G hn hRR.out.hi
    rw [← hLi] at h
    exact h)
  have h16 := hO16.out
  rw [← hLi] at h16
  have h16h := hid h16
  clear hLi h16 hO16
  obtain ⟨L, hL⟩ : ∃ L, L = chgL A B I J 256 := ⟨_, rfl⟩
  have h18 := hO18.out
  rw [← hL] at KC h18
  have hlen := hid (show L.length ≤ 256 by rw [hL]; exact chgL_len A B I J 256)
  replace KC := hid KC
  have h18h := hid h18
  clear hL h18 hO18 hRR hFh
  go_wp2_with fail
  refine KC.out.mono ?_
  rintro e w6 ⟨v22, rfl, O22, hb6⟩
  have D6 := hid (below2 D5.out hb6 D5.out.size)
  have M6 := hid (M5.out.more hb6)
  obtain ⟨p22, c22, rfl, a1, a2, R22⟩ := RowOwn.open enOk O22
  obtain ⟨p18, c18, e18, b1, b2, R18⟩ := RowOwn.open enOk (h18h.out.more D6.out)
  subst e18
  have hR22 := hid R22
  have hR18 := hid R18
  clear hb6 KC O22 R22 R18 a1 a2 b1 b2 h18h D5 M5
  go_wp2_with fail
  go_loopw [23] (fun sj wr => ∃ j : Nat, j ≤ L.length ∧ sj = .int .i64 (j : Int) ∧ Below w6.heap.size w6 wr) (fun sj _ => L.length - (intOf sj).toNat)
  case atStart => exact ⟨0, Nat.zero_le _, rfl, Below.refl _ _⟩
  case round =>
    obtain ⟨j, hj, rfl, hb⟩ := hrel
    by_cases hlt : j < L.length
    · have hlt' : (j : Int) < (L.length : Int) := by omega
      obtain ⟨b22, o22, e22, r22⟩ := RowP.row (RowP.more hR22.out hb) (by omega)
      obtain ⟨b18, o18, e18, r18⟩ := RowP.row (RowP.more hR18.out hb) (by omega)
      subst e22
      subst e18
      have y0 := r22.at0 hlt (v := .int .i64 (atR enT L j).k) rfl
      have y1 := r22.cell j hlt 1 (.int .i64 (atR enT L j).i) rfl
      have z0 := r18.at0 hlt (v := .int .i64 (atR enT L j).k) rfl
      have z1 := r18.cell j hlt 1 (.int .i64 (atR enT L j).i) rfl
      generalize (atR enT L j).k = ek at *
      generalize (atR enT L j).i = ei at *
      have hes := enSame_self ek ei
      have hbh := hid hb
      have hmeas := hid (meas_up9 L.length j hlt)
      have hw1 : wrap64 ((j : Int) + 1) = ((j + 1 : Nat) : Int) := by
        rw [IntWalk.wrap64_in _ ⟨by omega, by have := hlen.out; omega⟩]
        rfl
      change wr.cell? ⟨b22, o22 + j * 2, none⟩ = _ at y0
      change wr.cell? ⟨b22, o22 + j * 2 + 1, none⟩ = _ at y1
      change wr.cell? ⟨b18, o18 + j * 2, none⟩ = _ at z0
      change wr.cell? ⟨b18, o18 + j * 2 + 1, none⟩ = _ at z1
      clear r22 r18 hb
      go_wp2_with fail
      go_quiet (fail)
      go_wp2_with fail
      exact ⟨⟨j + 1, by omega, by rw [hw1], ⟨hbh.out.os, hbh.out.tape, hbh.out.output, hbh.out.size, hbh.out.block⟩⟩, hmeas.out _ hw1⟩
    · have hlt' : ¬ (j : Int) < (L.length : Int) := by omega
      have M7 := hid (M6.out.more hb)
      have D7 := hid (below2 D6.out hb D6.out.size)
      have KF := hid (gfreshN M7.out.G)
      clear hb hR22 hR18 M6 D6
      go_wp2_with fail
      refine KF.out.mono ?_
      rintro e w8 ⟨⟨u, hFu, rfl⟩, hb8⟩
      have huv := hF9.out u hFu
      subst huv
      obtain ⟨er, her⟩ : ∃ er : Int, er = (if u = 0 then 10 else 0) := ⟨_, rfl⟩
      rw [← her]
      replace her := hid her
      have M8 := hid (M7.out.more hb8)
      have D8 := hid (below2 D7.out hb8 D7.out.size)
      have KI := hid (hIds.out _ _ _ (by omega) M8.out.G)
      clear hb8 hFu KF hF9 M7 D7
      go_wp2_with fail
      refine KI.out.mono ?_
      rintro e w9 ⟨⟨qi, ci, rfl, i1, i2, RI⟩, hb9⟩
      have D9 := hid (below2 D8.out hb9 D8.out.size)
      obtain ⟨p16, c16, e16, j1, j2, R16⟩ := RowOwn.open inOk (h16h.out.more D9.out)
      subst e16
      have KP := hid (plainInts_same qi p16 Li.length ci c16 (fun i => inAt Li i) i1 i2 j1 j2 w9 RI R16)
      have D09 := hid (below2 M8.out.S hb9 M8.out.S.size)
      clear hb9 KI i1 i2 RI j1 j2 R16 D8 M8 h16h
      go_wp2_with fail
      refine KP.out.mono ?_
      rintro e w10 ⟨rfl, hb10⟩
      have D10 := hid (below2 D09.out hb10 D09.out.size)
      clear hb10 KP D9 D09
      rcases Nat.eq_zero_or_pos u with hu | hu
      · subst hu
        obtain rfl : er = 10 := by rw [her.out, if_pos rfl]
        clear her
        go_wp2_with fail
        simp only [Array.getD_eq_getD_getElem?, List.getElem?_toArray, List.getElem?_cons_succ, List.getElem?_cons_zero, Option.getD_some]
        exact hR.out _ D10.out
      · have g1 : (0 : Int) < (u : Int) := by omega
        obtain rfl : er = 0 := by rw [her.out, if_neg (by omega)]
        clear her
        replace hu : 0 < u := hu
        go_wp2_with fail
        simp only [Array.getD_eq_getD_getElem?, List.getElem?_toArray, List.getElem?_cons_succ, List.getElem?_cons_zero, Option.getD_some]
        exact hR.out _ D10.out
end Go.Proofs.Ytghboanmiggcnaa

/-
  GroveRuns: what follows its second loop: what is got, what became other, what is fresh, what is there. The walk.
-/

namespace Go.Proofs.Ytghboanmiggcnaa
open Go.RowKit Go.Maps Go.Shelf Go.Sort
set_option linter.unusedVariables false
set_option linter.unusedSimpArgs false

noncomputable def endC : Code := ((Try.f3.body.bind (codeFrom22 41)).getD .skip)
def tabGot (p20 k a7 : Nat) (x y : NdX) : Nat → Option Value
  | 0 => some (.bool true)
  | 1 => some (.bool false)
  | 2 => some (.bool false)
  | 3 => some x.val
  | 4 => some (.int .i64 (k : Int))
  | 5 => some (.pointer (some ⟨a7, k * 11, none⟩))
  | 6 => some y.val
  | 7 => some (.bool true)
  | 8 => some (.bool false)
  | _ => none
set_option maxRecDepth 100000 in
set_option maxHeartbeats 8000000 in
theorem groveEnd {R : Ending → World → Prop} (w0 W : World) (a7 a8 a9 a10 : Nat) (A B X Y : Nat → NdX) (I J H K : Nat → Bool) (gg b n : Nat) (D : DataW Value) (oo bo no : Nat) (Do : DataW Value) (hn : n ≤ 40) (M : RunM w0 W a7 a8 a9 a10 A B X Y I J H K gg b n D oo bo no Do) (RR : RunR w0 A B X Y I J H K)
    (look : Int) (hlook : (Lit.int .i64 look).wf = true) (v16 v18 : Value) (v : Nat) (base : Nat) (O16 : RowOwn inT W base v16 (idsB I 256)) (hF : FreshAt I 256 v) (O18 : RowOwn enT W base v18 (chgL A B I J 256)) (hR : ∀ w', Below w0.heap.size w0 w' → R (.returned (.bool true)) w')
    {u0 u2 u3 u4 u11 u12 u13 u14 u15 u19 u20 u21 u22 u23 u24 u25 u26 u27 u28 u29 u30 u31 u32 u33 u34 u35 u36 u37 u38 u39 u40 u41 u42 u43 u44 u45 u46 u47 u48 u49 u50 u51 u52 u53 u54 u55 u56 u57 u58 u59 u60 u61 u62 u63 u64 u65 u66 u67 u68 u69 u70 u71 u72 u73 u74 u75 u76 u77 u78 u79 u80 u81 u82 u83 u84 u85 u86 u87 u88 u89 u90 u91 u92 u93 u94 u95 u96 u97 u98 u99 u100 u101 u102 u103 u104 u105 u106 u107 u108 u109 u110 u111 u112 u113 u114 u115 u116 u117 u118 u119 u120 u121 u122 u123 u124 u125 u126 u127 u128 u129 u130 u131 u132 u133 u134 u135 u136 u137 u138 u139 u140 u141 u142 u143 u144 u145 u146 u147 u148 u149 u150 u151 u152 u153 u154 u155 u156 u157 u158 u159 u160 u161 u162 u163 u164 u165 u166 u167 u168 u169 u170 u171 u172 u173 u174 u175 u176 u177 u178 u179 u180 u181 u182 u183 u184 u185 u186 u187 u188 u189 u190 u191 u192 u193 u194 u195 u196 u197 u198 u199 u200 u201 u202 u203 u204 u205 u206 u207 u208 u209 u210 u211 u212 u213 u214 u215 u216 u217 u218 u219 u220 u221 u222 u223 u224 u225 u226 u227 u228 u229 u230 u231 u232 u233 u234 u235 u236 u237 u238 u239 u240 u241 u242 u243 u244 u245 u246 u247 u248 u249 u250 u251 u252 u253 u254 u255 u256 u257 u258 u259 u260 u261 u262 u263 u264 u265 u266 u267 : Value} :
    Code.wp Try.prog endC (bodyPost Try.prog Try.f3 R) ⟨#[u0, .int .i64 look, u2, u3, u4, .pointer (some ⟨gg, 0, none⟩), .pointer (some ⟨oo, 0, none⟩), .pointer (some ⟨a7, 0, none⟩), .pointer (some ⟨a8, 0, none⟩), .pointer (some ⟨a9, 0, none⟩), .pointer (some ⟨a10, 0, none⟩), u11, u12, u13, u14, u15, v16, .int .i64 (v : Int), v18, u19, u20, u21, u22, u23, u24, u25, u26, u27, u28, u29, u30, u31, u32, u33, u34, u35, u36, u37, u38, u39, u40, u41, u42, u43, u44, u45, u46, u47, u48, u49, u50, u51, u52, u53, u54, u55, u56, u57, u58, u59, u60, u61, u62, u63, u64, u65, u66, u67, u68, u69, u70, u71, u72, u73, u74, u75, u76, u77, u78, u79, u80, u81, u82, u83, u84, u85, u86, u87, u88, u89, u90, u91, u92, u93, u94, u95, u96, u97, u98, u99, u100, u101, u102, u103, u104, u105, u106, u107, u108, u109, u110, u111, u112, u113, u114, u115, u116, u117, u118, u119, u120, u121, u122, u123, u124, u125, u126, u127, u128, u129, u130, u131, u132, u133, u134, u135, u136, u137, u138, u139, u140, u141, u142, u143, u144, u145, u146, u147, u148, u149, u150, u151, u152, u153, u154, u155, u156, u157, u158, u159, u160, u161, u162, u163, u164, u165, u166, u167, u168, u169, u170, u171, u172, u173, u174, u175, u176, u177, u178, u179, u180, u181, u182, u183, u184, u185, u186, u187, u188, u189, u190, u191, u192, u193, u194, u195, u196, u197, u198, u199, u200, u201, u202, u203, u204, u205, u206, u207, u208, u209, u210, u211, u212, u213, u214, u215, u216, u217, u218, u219, u220, u221, u222, u223, u224, u225, u226, u227, u228, u229, u230, u231, u232, u233, u234, u235, u236, u237, u238, u239, u240, u241, u242, u243, u244, u245, u246, u247, u248, u249, u250, u251, u252, u253, u254, u255, u256, u257, u258, u259, u260, u261, u262, u263, u264, u265, u266, u267], []⟩ W := by
  conv => arg 2; whnf
  replace hR := hid hR
  have hRR := hid RR
  have hM := hid M
  have hO16 := hid O16
  have hO18 := hid O18
  have hFh := hid hF
  have KG : Calls Try.prog 12 #[.pointer (some ⟨gg, 0, none⟩), .int .i64 look] W fun e w' => (∃ x : NdX, e = .returned (.tuple #[x.val, .bool (decide (1 ≤ look ∧ look < 256) && I look.toNat)]) ∧ x.lies w' ∧ ((decide (1 ≤ look ∧ look < 256) && I look.toNat) = true → ∃ q c, x = (A look.toNat).to q c) ∧ ((decide (1 ≤ look ∧ look < 256) && I look.toNat) = false → ∃ q c, x = NdX.zero.to q c)) ∧ Below W.heap.size W w' := by
    have hH : (decide (1 ≤ look ∧ look < 256) && H look.toNat) = (decide (1 ≤ look ∧ look < 256) && I look.toNat) := by
      by_cases hr : 1 ≤ look ∧ look < 256
      · rw [RR.hi look.toNat (by omega) (by omega)]
      · rw [decide_eq_false hr]; rfl
    have hV := M.G.look look hlook
    have hl := M.G.finds look
    have hh := M.G.has look hlook
    rw [hH] at hV hl hh
    generalize hx : (if (decide (1 ≤ look ∧ look < 256) && I look.toNat) = true then X look.toNat else NdX.zero) = x at hV hl
    have hm4 : x.m ≤ 4 := by
      rw [← hx]
      split
      · rename_i hc
        have hc' := hc
        simp only [Bool.and_eq_true, decide_eq_true_eq] at hc'
        exact (RR.xa look.toNat (by omega) (by omega) ((RR.hi look.toNat (by omega) (by omega)).symm.trans hc'.2)).2
      · exact Nat.zero_le _
    have KG0 := gget_any gg b n D W M.G.m look hlook x.lf x.q x.m x.cap x.f (by omega) x.nx (x.k 0) (x.k 1) (x.k 2) (x.k 3) (x.c 0) (x.c 1) (x.c 2) (x.c 3) hV hl.row
    rw [hh] at KG0
    refine KG0.mono ?_
    rintro e w' ⟨q', c', rfl, O, hb⟩
    have RO := OwnP.row O
    refine ⟨⟨x.to q' c', rfl, ⟨RO.1, RO.2.1, RO.2.2⟩, fun hc => ?_, fun hc => ?_⟩, hb⟩
    · rw [hc] at hx
      simp only [Bool.and_eq_true, decide_eq_true_eq] at hc
      obtain ⟨⟨q, c, e⟩, _⟩ := RR.xa look.toNat (by omega) (by omega) ((RR.hi look.toNat (by omega) (by omega)).symm.trans hc.2)
      refine ⟨q', c', ?_⟩
      rw [← hx, if_pos rfl, e]; rfl
    · rw [hc] at hx
      exact ⟨q', c', by rw [← hx]; rfl⟩
  obtain ⟨hs, hhs⟩ : ∃ hs, hs = (decide (1 ≤ look ∧ look < 256) && I look.toNat) := ⟨_, rfl⟩
  rw [← hhs] at KG
  have hhsh := hid hhs
  replace KG := hid KG
  clear hhs M RR O16 O18 hF
  go_wp2_with fail
  refine KG.out.mono ?_
  rintro e w1 ⟨⟨x, rfl, hx, hxa, hxz⟩, hb1⟩
  have D1 := hid hb1
  have hxh := hid hx
  have hxah := hid hxa
  have hxzh := hid hxz
  clear KG hb1 hx hxa hxz
  have KS := fun (x y : NdX) (W : World) (h1 : x.lies W) (h2 : y.lies W) => refSame_any x.lf y.lf x.q y.q x.m y.m x.cap y.cap x.f y.f x.nx y.nx x.k y.k x.c y.c h1.cap h1.max h2.cap h2.max W h1.row h2.row
  have KSh := hid KS
  clear KS
  go_upto_region 42 with (fail)
  generalize hW2 : World.alloc w1 _ = W2
  have B20 := hid (hW2 ▸ Blk.new w1 _ _ : Blk W2 w1.heap.size x.cells.toArray)
  have hb12 := hid (hW2 ▸ below_one w1 _ : Below w1.heap.size w1 W2)
  have D2 := hid (below2 D1.out hb12.out D1.out.size)
  have hx2 := hid (hxh.out.more hb12.out)
  have M2 := hid (hM.out.more D2.out)
  clear hW2 D1 hxh hb12
  generalize w1.heap.size = p20 at *
  go_cut [197] (fun s wx => s = .bool (!hs) ∧ wx = W2)
  case first =>
    by_cases hr : 1 ≤ look ∧ look < 256
    · obtain ⟨k, rfl⟩ : ∃ k : Nat, look = (k : Int) := ⟨look.toNat, by omega⟩
      have g1 : decide ((k : Int) < 1) = false := decide_eq_false (by omega)
      have g2 : decide ((255 : Int) < (k : Int)) = false := decide_eq_false (by omega)
      have g3 : (k : Int) < 256 := by omega
      have g4 : k < 256 := by omega
      have hsI : hs = I k := by have := hhsh.out; rw [decide_eq_true hr, Bool.true_and, Int.toNat_natCast] at this; exact this
      obtain ⟨C9, B9, N9⟩ := M2.out.c9
      have hC9 := N9.get k g4
      rw [← hsI] at hC9
      obtain ⟨l9, m9, f9⟩ := B9
      have hCk := (m9 k).trans hC9
      clear m9 hC9 hsI hr
      cases hs with
      | true =>
        go_wp2_with fail
        go_meet
        case rel => exact ⟨rfl, rfl⟩
      | false =>
        go_wp2_with fail
        go_meet
        case rel => exact ⟨rfl, rfl⟩
    · have hsf := hid (show hs = false by have := hhsh.out; rw [decide_eq_false hr, Bool.false_and] at this; exact this)
      by_cases h1 : look < 1
      · have g1 : decide (look < 1) = true := decide_eq_true h1
        clear hr h1
        go_wp2_with fail
        go_meet
        case rel => exact ⟨by rw [hsf.out]; rfl, rfl⟩
      · have g1 : decide (look < 1) = false := decide_eq_false h1
        have g2 : decide (255 < look) = true := decide_eq_true (by omega)
        clear hr h1
        go_wp2_with fail
        go_meet
        case rel => exact ⟨by rw [hsf.out]; rfl, rfl⟩
  case rest =>
    obtain ⟨h197, hwc⟩ := hcut
    subst h197
    rw [hwc]
    clear hwc wc
    go_upto_if 197 with (fail)
    go_cut [5] (fun s wx => s = .pointer (some ⟨gg, 0, none⟩) ∧ Below W.heap.size W wx)
    case first =>
      obtain ⟨l20, m20, f20⟩ := B20.out
      cases hs with
      | false =>
        obtain ⟨q9, c9, hx9⟩ := hxzh.out rfl
        have KZ := KSh.out x NdX.zero
        rw [show nSame x.lf NdX.zero.lf x.m NdX.zero.m x.f NdX.zero.f x.nx NdX.zero.nx x.k NdX.zero.k x.c NdX.zero.c = true from by rw [hx9]; exact NdX.same_self NdX.zero q9 c9] at KZ
        have KZ2 := hid (fun W h => KZ W h (NdX.zero_lies W))
        clear KZ KSh hx9 hxah hxzh
        go_wp2_with fail
        refine (KZ2.out _ hx2.out).mono ?_
        rintro e w3 ⟨rfl, hb3⟩
        have D3 := hid (below2 D2.out hb3 D2.out.size)
        clear hb3 l20 m20 f20
        go_wp2_with fail
        go_meet
        case rel => exact ⟨rfl, D3.out⟩
      | true =>
        obtain ⟨q9, c9, hx9⟩ := hxah.out rfl
        obtain ⟨k, rfl⟩ : ∃ k : Nat, look = (k : Int) := ⟨look.toNat, by have := hhsh.out.symm; simp only [Bool.and_eq_true, decide_eq_true_eq] at this; omega⟩
        rw [Int.toNat_natCast] at hx9
        have hkn : k < 256 := by have := hhsh.out.symm; simp only [Bool.and_eq_true, decide_eq_true_eq] at this; omega
        have hkk : (k : Int) < 256 := by omega
        have KZ := KSh.out x (A k)
        rw [show nSame x.lf (A k).lf x.m (A k).m x.f (A k).f x.nx (A k).nx x.k (A k).k x.c (A k).c = true from by rw [hx9]; exact NdX.same_self (A k) q9 c9] at KZ
        have KZ2 := hid KZ
        clear KZ KSh hx9 hxah hxzh l20 m20 f20
        go_upto_region 45 with (fail)
        have hlA := fun W' (h : Below W2.drew.heap.size W2.drew W') => (hRR.out.la k).more (below2 M2.out.drew.S h M2.out.drew.S.size)
        have hlX := fun W' (h : Below W2.drew.heap.size W2.drew W') => (hx2.out.more (Below.refl _ _).drew).more h
        obtain ⟨C7, B7, N7⟩ := M2.out.drew.c7
        have hc7 : ∀ W', Below W2.drew.heap.size W2.drew W' → W'.rangeAt a7 (k * 11) (A k).cells := fun W' h => N7.range (B7.more h) hkn
        have hc20 : ∀ W', Below W2.drew.heap.size W2.drew W' → W'.rangeAt p20 0 x.cells := fun W' h => by
          have := ((B20.out.drew).more h).range
          exact this
        have D2d := hid D2.out.drew
        clear B7 N7
        generalize hV : tabGot p20 k a7 x (A k) = V
        refine wp_region_inv 9 (fun D vs wx => IB W2.drew V D vs wx) (by kernel_rfl) (by kernel_rfl) ?h0 ?hstep ?hend
        case h0 => exact ⟨Vals.nil, Below.refl _ _⟩
        case hstep =>
          intro n o hj ho D vs ax wx hDj hD hv hbase H
          rcases (show n = 0 ∨ n = 1 ∨ n = 2 ∨ n = 3 ∨ n = 4 ∨ n = 5 ∨ n = 6 ∨ n = 7 ∨ n = 8 by omega) with rfl | rfl | rfl | rfl | rfl | rfl | rfl | rfl | rfl
          all_goals
            simp only [List.getElem?_cons_zero, List.getElem?_cons_succ, Option.some.injEq] at ho
            subst ho
          · have f21 := at_base hbase 21 (by kernel_rfl) (v := .bool true) rfl
            exact StepOf.value (.bool true) (wanted_plain rfl _) (by simp [execOp, Act.eval, f21, go_sem]) (H.quiet 0 _ (by rw [← hV]; rfl))
          · have e0 := at_done H.vals hv (hD 0 (by kernel_rfl)) 205 (by kernel_rfl) (v := .bool true) (by rw [← hV]; rfl)
            exact StepOf.value (.bool false) (wanted_plain rfl _) (by simp [execOp, Act.eval, e0, go_sem]) (H.quiet 1 _ (by rw [← hV]; rfl))
          · have e1 := at_done H.vals hv (hD 1 (by kernel_rfl)) 206 (by kernel_rfl) (v := .bool false) (by rw [← hV]; rfl)
            exact StepOf.value (.bool false) (wanted_plain rfl _) (by simp [execOp, Act.eval, e1, go_sem]) (H.quiet 2 _ (by rw [← hV]; rfl))
          · have e2 := at_done H.vals hv (hD 2 (by kernel_rfl)) 207 (by kernel_rfl) (v := .bool false) (by rw [← hV]; rfl)
            have f20 := at_base hbase 20 (by kernel_rfl) (v := .pointer (some ⟨p20, 0, none⟩)) rfl
            exact StepOf.value x.val (wanted_on9 rfl (t := 207) rfl e2) (grun_load_at _ _ _ 29 _ rfl p20 0 (eval_get f20) x.cells.toArray _ (hc20 _ H.low) Try.underlying29 rfl (by rw [tabE22]; rfl)) (H.quiet 3 _ (by rw [← hV]; rfl))
          · have e2 := at_done H.vals hv (hD 2 (by kernel_rfl)) 207 (by kernel_rfl) (v := .bool false) (by rw [← hV]; rfl)
            have f1 := at_base hbase 1 (by kernel_rfl) (v := .int .i64 (k : Int)) rfl
            exact StepOf.value (.int .i64 (k : Int)) (wanted_on9 rfl (t := 207) rfl e2) (by simp [execOp, Act.eval, f1, go_sem]) (H.quiet 4 _ (by rw [← hV]; rfl))
          · have e2 := at_done H.vals hv (hD 2 (by kernel_rfl)) 207 (by kernel_rfl) (v := .bool false) (by rw [← hV]; rfl)
            have e4 := at_done H.vals hv (hD 4 (by kernel_rfl)) 209 (by kernel_rfl) (v := .int .i64 (k : Int)) (by rw [← hV]; rfl)
            have f7 := at_base hbase 7 (by kernel_rfl) (v := .pointer (some ⟨a7, 0, none⟩)) rfl
            exact StepOf.value (.pointer (some ⟨a7, k * 11, none⟩)) (wanted_on9 rfl (t := 207) rfl e2) (by simp [execOp, Act.eval, f7, e4, go_sem, hkk, hkn]) (H.quiet 5 _ (by rw [← hV]; rfl))
          · have e2 := at_done H.vals hv (hD 2 (by kernel_rfl)) 207 (by kernel_rfl) (v := .bool false) (by rw [← hV]; rfl)
            have e5 := at_done H.vals hv (hD 5 (by kernel_rfl)) 210 (by kernel_rfl) (v := .pointer (some ⟨a7, k * 11, none⟩)) (by rw [← hV]; rfl)
            exact StepOf.value (A k).val (wanted_on9 rfl (t := 207) rfl e2) (grun_load_at _ _ _ 29 _ rfl a7 (k * 11) (eval_get e5) (A k).cells.toArray _ (hc7 _ H.low) Try.underlying29 rfl (by rw [tabE22]; rfl)) (H.quiet 6 _ (by rw [← hV]; rfl))
          · have e2 := at_done H.vals hv (hD 2 (by kernel_rfl)) 207 (by kernel_rfl) (v := .bool false) (by rw [← hV]; rfl)
            have e3 := at_done H.vals hv (hD 3 (by kernel_rfl)) 208 (by kernel_rfl) (v := x.val) (by rw [← hV]; rfl)
            have e6 := at_done H.vals hv (hD 6 (by kernel_rfl)) 211 (by kernel_rfl) (v := (A k).val) (by rw [← hV]; rfl)
            refine StepOf.call 11 #[x.val, (A k).val] (wanted_on9 rfl (t := 207) rfl e2) (by simp [execOp, Act.eval, e3, e6, go_sem]) ((KZ2.out wx (hlX _ H.low) (hlA _ H.low)).mono ?_)
            rintro e w2 ⟨rfl, hb2⟩
            exact ⟨_, rfl, H.called 7 (.bool true) (by rw [← hV]; rfl) hb2⟩
          · have e2 := at_done H.vals hv (hD 2 (by kernel_rfl)) 207 (by kernel_rfl) (v := .bool false) (by rw [← hV]; rfl)
            have e7 := at_done H.vals hv (hD 7 (by kernel_rfl)) 212 (by kernel_rfl) (v := .bool true) (by rw [← hV]; rfl)
            exact StepOf.value (.bool false) (wanted_on9 rfl (t := 207) rfl e2) (by simp [execOp, Act.eval, e7, go_sem]) (H.quiet 8 _ (by rw [← hV]; rfl))
        case hend =>
          intro D vs W7x hall H
          have D7 := hid (below2 D2d.out H.low D2d.out.size)
          have v0 := H.vals 0 _ (hall 0 (by omega)) (by rw [← hV]; rfl)
          have v1 := H.vals 1 _ (hall 1 (by omega)) (by rw [← hV]; rfl)
          have v2 := H.vals 2 _ (hall 2 (by omega)) (by rw [← hV]; rfl)
          have v3 := H.vals 3 _ (hall 3 (by omega)) (by rw [← hV]; rfl)
          have v4 := H.vals 4 _ (hall 4 (by omega)) (by rw [← hV]; rfl)
          have v5 := H.vals 5 _ (hall 5 (by omega)) (by rw [← hV]; rfl)
          have v6 := H.vals 6 _ (hall 6 (by omega)) (by rw [← hV]; rfl)
          have v7 := H.vals 7 _ (hall 7 (by omega)) (by rw [← hV]; rfl)
          have v8 := H.vals 8 _ (hall 8 (by omega)) (by rw [← hV]; rfl)
          simp only [puts, List.range, List.range.loop, List.foldl_cons, List.foldl_nil, List.getElem?_toArray, List.getElem?_cons_succ, List.getElem?_cons_zero, Option.bind_some, Option.bind_none, Act.put, List.setIfInBounds_toArray, List.set_cons_succ, List.set_cons_zero, v0, v1, v2, v3, v4, v5, v6, v7, v8]
          simp only [List.drop_succ_cons, List.drop_zero]
          clear v0 v1 v2 v3 v4 v5 v6 v7 v8 hall H hV hc7 hc20 hlA hlX
          go_wp2_with fail
          go_meet
          case rel => exact ⟨rfl, D7.out⟩
    case rest =>
      obtain ⟨h5, hDc⟩ := hcut
      subst h5
      have D5 := hid hDc
      have M5 := hid (hM.out.more hDc)
      clear hDc KSh hxah hxzh D2 hx2 M2 B20
      rename ∀ (a : Act) (w : World), Code.wp _ _ _ a w → _ => aK9
      refine aK9 _ _ ?_
      exact groveEndC w0 W wc a7 a8 a9 a10 A B X Y I J H K gg b n D oo bo no Do hn M5 hRR v16 v18 v base hO16 hFh hO18 D5 hR
end Go.Proofs.Ytghboanmiggcnaa

/-
  Points in a row of the call's own: a list of them, and the row that a walk reads.
-/


namespace Go.Proofs.Ytghboanmiggcnaa
open Go.RowKit
set_option linter.unusedVariables false

theorem ptTab : (Try.prog.info? 53).map (fun i => (i.zero, i.size, i.bytes)) = some (some (.agg #[.int .i64 0, .int .u32 0, .int .u32 0, .string ByteArray.empty]), 4, 32) := by kernel_rfl
theorem intTab : (Try.prog.info? 3).map (fun i => (i.zero, i.size, i.bytes)) = some (some (.int .i64 0), 1, 8) := by kernel_rfl

/-- The cells of points, one behind the other. -/
def flatP (L : List Pt) : List Value := L.flatMap pcells
theorem flatP_nil : flatP [] = [] := rfl
theorem flatP_append (L M : List Pt) : flatP (L ++ M) = flatP L ++ flatP M := by simp [flatP]
theorem flatP_one (q : Pt) : flatP [q] = pcells q := by simp [flatP]
theorem flatP_length : ∀ L : List Pt, (flatP L).length = L.length * 4
  | [] => rfl
  | q :: L => by
    have h := flatP_length L
    simp only [flatP, List.flatMap_cons, List.length_append, List.length_cons] at h ⊢
    rw [h]
    simp [pcells]
    omega
theorem flatP_get : ∀ (L : List Pt) (i j : Nat) (hi : i < L.length) (v : Value), (pcells L[i])[j]? = some v → (flatP L)[i * 4 + j]? = some v
  | [], i, j, hi, v, h => absurd hi (Nat.not_lt_zero _)
  | q :: L, 0, j, hi, v, h => by
    have hj : j < (pcells q).length := (List.getElem?_eq_some_iff.1 h).1
    simp only [flatP, List.flatMap_cons, Nat.zero_mul, Nat.zero_add]
    rw [List.getElem?_append_left hj]
    exact h
  | q :: L, i + 1, j, hi, v, h => by
    have ih := flatP_get L i j (by simpa using hi) v (by simpa using h)
    simp only [flatP, List.flatMap_cons]
    rw [List.getElem?_append_right (by simp [pcells]; omega)]
    rw [show (i + 1) * 4 + j - (pcells q).length = i * 4 + j by simp [pcells]; omega]
    exact ih

/-- A row of the call's own holds these points. -/
def PtsOwn (w : World) (base : Nat) (v : Value) (L : List Pt) : Prop := w.ownsRow base 53 4 v L.length (flatP L)
/-- The i-th of them. -/
def ptAt (L : List Pt) (i : Nat) : Pt := (L[i]?).getD ⟨0, 0, 0, ByteArray.empty⟩
theorem ptAt_eq (L : List Pt) (i : Nat) (hi : i < L.length) : ptAt L i = L[i] := by simp [ptAt, hi]
theorem ptAt_mem (L : List Pt) (i : Nat) (hi : i < L.length) : ptAt L i ∈ L := by rw [ptAt_eq L i hi]; exact List.getElem_mem hi

theorem PtsOwn.nil (w : World) (base : Nat) : PtsOwn w base (.slice none 0 0) [] := World.ownsRow_nil _ _ _ _
theorem PtsOwn.more {w w' : World} {base : Nat} {v : Value} {L : List Pt} (h : PtsOwn w base v L) (hb : Below w.heap.size w w') : PtsOwn w' base v L :=
  own_sole h (Sole.made (S := fun _ => False) hb) fun _ _ x => x
theorem PtsOwn.sole {S : Nat → Prop} {w w' : World} {base : Nat} {v : Value} {L : List Pt} (h : PtsOwn w base v L) (hs : Sole S w w') (hn : ∀ k, v.ownBlock = some k → ¬ S k) : PtsOwn w' base v L := own_sole h hs hn
theorem PtsOwn.open {w : World} {base : Nat} {v : Value} {L : List Pt} (h : PtsOwn w base v L) :
    ∃ p cap, v = .slice p L.length cap ∧ L.length ≤ cap ∧ cap ≤ maxLen ∧ RowP w p 4 L.length (fun i => pcells (ptAt L i)) := by
  rcases h.2 with ⟨rfl, h0⟩ | ⟨g, cap, cur, rfl, hb, hg, h1, h2, h3, h4⟩
  · exact ⟨none, 0, by rw [h0], by omega, Nat.zero_le _, .inl h0⟩
  · refine ⟨_, cap, rfl, h1, h2, .inr ⟨g, 0, rfl, (h.lt g rfl).2, fun i hi j u hu => ?_⟩⟩
    rw [ptAt_eq L i hi] at hu
    have hf := flatP_get L i j hi u hu
    have := h.cells (g := g) rfl (i * 4 + j) u hf
    rw [Nat.zero_add]
    unfold Addr.add at this
    split at this
    · rename_i e
      simpa [e] using this
    · simpa using this

/-- Two rows of unlike elements are two blocks. -/
theorem own_apart {w : World} {b b' : Nat} {e e' : TypeId} {s s' : Nat} {v v' : Value} {n n' : Nat} {xs xs' : List Value} (h : w.ownsRow b e s v n xs) (h' : w.ownsRow b' e' s' v' n' xs') (hne : e ≠ e') :
    ∀ k, v.ownBlock = some k → v'.ownBlock ≠ some k := by
  intro k hk hk'
  rcases h.2 with ⟨rfl, _⟩ | ⟨g, cap, cur, rfl, hb, hg, _⟩
  · cases hk
  · rcases h'.2 with ⟨rfl, _⟩ | ⟨g', cap', cur', rfl, hb', hg', _⟩
    · cases hk'
    · simp [Value.ownBlock] at hk hk'
      subst hk
      subst hk'
      rw [hg] at hg'
      cases hg'
      exact hne rfl
end Go.Proofs.Ytghboanmiggcnaa

/-
  GroveRuns: its second loop, and what follows. The walk. (Written by wip/tools/gengrovetail.py.)
-/


namespace Go.Proofs.Ytghboanmiggcnaa
open Go.RowKit Go.Maps Go.Shelf Go.Sort
set_option linter.unusedVariables false
set_option linter.unusedSimpArgs false

noncomputable def tailC : Code := ((Try.f3.body.bind (codeFrom22 27)).getD .skip)
def tabF (k a7 a8 a9 a10 : Nat) (A B : Nat → NdX) (S : Bool) : Nat → Option Value
  | 0 => some (.int .i64 (k : Int))
  | 1 => some (.pointer (some ⟨a9, k, none⟩))
  | 2 => some (.bool false)
  | 3 => some (.bool false)
  | 4 => some (undef)
  | 5 => some (undef)
  | 6 => some (undef)
  | 7 => some (undef)
  | 8 => some (undef)
  | 9 => some (undef)
  | 10 => some (undef)
  | 11 => some (undef)
  | 12 => some (undef)
  | 13 => some (undef)
  | 14 => some (undef)
  | 15 => some (undef)
  | 16 => some (undef)
  | 17 => some (undef)
  | _ => none
def tabT (k a7 a8 a9 a10 : Nat) (A B : Nat → NdX) (S : Bool) : Nat → Option Value
  | 0 => some (.int .i64 (k : Int))
  | 1 => some (.pointer (some ⟨a9, k, none⟩))
  | 2 => some (.bool true)
  | 3 => some (.bool true)
  | 4 => some (.int .i64 (k : Int))
  | 5 => some (.pointer (some ⟨a10, k, none⟩))
  | 6 => some (.bool false)
  | 7 => some (.bool true)
  | 8 => some (.bool true)
  | 9 => some (undef)
  | 10 => some (undef)
  | 11 => some (undef)
  | 12 => some (undef)
  | 13 => some (undef)
  | 14 => some (undef)
  | 15 => some (undef)
  | 16 => some (undef)
  | 17 => some (.bool true)
  | _ => none
def tabS2 (k a7 a8 a9 a10 : Nat) (A B : Nat → NdX) (S : Bool) : Nat → Option Value
  | 0 => some (.int .i64 (k : Int))
  | 1 => some (.pointer (some ⟨a9, k, none⟩))
  | 2 => some (.bool true)
  | 3 => some (.bool true)
  | 4 => some (.int .i64 (k : Int))
  | 5 => some (.pointer (some ⟨a10, k, none⟩))
  | 6 => some (.bool true)
  | 7 => some (.bool false)
  | 8 => some (.bool false)
  | 9 => some (.int .i64 (k : Int))
  | 10 => some (.pointer (some ⟨a7, k * 11, none⟩))
  | 11 => some ((A k).val)
  | 12 => some (.int .i64 (k : Int))
  | 13 => some (.pointer (some ⟨a8, k * 11, none⟩))
  | 14 => some ((B k).val)
  | 15 => some (.bool S)
  | 16 => some (.bool (!S))
  | 17 => some (.bool (!S))
  | _ => none
def idsB1 (I : Nat → Bool) (k : Nat) : List Int := if decide (1 ≤ k) && I k then [(k : Int)] else []
theorem idsB_succ (I : Nat → Bool) (k : Nat) : idsB I (k + 1) = idsB I k ++ idsB1 I k := by
  unfold idsB idsN idsB1
  rw [List.range_succ, List.filter_append, List.map_append]
  congr 1
  cases h : (decide (1 ≤ k) && I k) <;> simp [h]
theorem idsB_len (I : Nat → Bool) (k : Nat) : (idsB I k).length ≤ k := by
  unfold idsB idsN
  rw [List.length_map]
  exact Nat.le_trans (List.length_filter_le _ _) (by simp)
theorem FreshAt.next0 {H : Nat → Bool} {k : Nat} (h : FreshAt H k 0) (hk : 1 ≤ k) (hH : H k = false) : FreshAt H (k + 1) k := by
  rcases h with ⟨_, a⟩ | ⟨a1, _⟩
  · exact .inr ⟨hk, by omega, hH, a⟩
  · omega
theorem FreshAt.next1 {H : Nat → Bool} {k v : Nat} (h : FreshAt H k v) (hv : 0 < v) (hk : 1 ≤ k) : FreshAt H (k + 1) v := by
  rcases h with ⟨rfl, a⟩ | ⟨a1, a2, a3, a4⟩
  · omega
  · exact .inr ⟨a1, by omega, a3, a4⟩
theorem FreshAt.nextT {H : Nat → Bool} {k v : Nat} (h : FreshAt H k v) (hk : 1 ≤ k) (hH : H k = true) : FreshAt H (k + 1) v := by
  rcases h with ⟨rfl, a⟩ | ⟨a1, a2, a3, a4⟩
  · exact .inl ⟨rfl, fun i h1 h2 => by
      by_cases e : i = k
      · rw [e]; exact hH
      · exact a i h1 (by omega)⟩
  · exact .inr ⟨a1, by omega, a3, a4⟩
theorem row_grow2 {α : Type} {T : RowT α} (K : T.Ok) {B : Nat} {w : World} {v : Value} {L : List α} (O : RowOwn T w B v L) (hB : B ≤ w.heap.size) (x : α) (c : Array Value) (hc : c.toList = T.cells x) (hn : (L.length + 1) * T.bytes ≤ 140737488355328) (h63 : L.length + 1 ≤ maxLen) :
    ∃ v' w', (∀ ty, (Builtin.append_ #[T.sl, T.sl] ty #[v, .slice (some ⟨w.heap.size, 0, none⟩) 1 1]).run Try.prog (w.alloc (.cells c T.ty)) = .ok v' w') ∧ RowOwn T w' B v' (L ++ [x]) ∧ Sole (fun k => v.ownBlock = some k) (w.alloc (.cells c T.ty)) w' ∧ Below B w w' := by
  have b1 : Below w.heap.size w (w.alloc (.cells c T.ty)) := below_one _ _
  obtain ⟨v', w', hr, O', gr, _⟩ := append_row K B T.sl _ v L (O.more b1) (some ⟨w.heap.size, 0, none⟩) 1 [x] (rowOf_one K (Blk.new w _ _) hc) (by simpa using hn) (by simpa using h63) (by simp; omega)
  exact ⟨v', w', fun ty => hr, O', Sole.grown gr fun k e => e, Below.grown (b1.mono hB) gr (by simp; omega) fun k hk => (O.within k hk).1⟩

set_option maxRecDepth 100000 in
set_option maxHeartbeats 16000000 in
theorem groveTail {R : Ending → World → Prop} (w0 W : World) (a7 a8 a9 a10 : Nat) (A B X Y : Nat → NdX) (I J H K : Nat → Bool) (gg b n : Nat) (D : DataW Value) (oo bo no : Nat) (Do : DataW Value) (hn : n ≤ 40) (hM : Hid (RunM w0 W a7 a8 a9 a10 A B X Y I J H K gg b n D oo bo no Do)) (hRR : Hid (RunR w0 A B X Y I J H K))
    (look : Int) (hlook : Hid ((Lit.int .i64 look).wf = true)) (hR : Hid (∀ w', Below w0.heap.size w0 w' → R (.returned (.bool true)) w'))
    {u0 u2 u3 u4 u11 u12 u13 u14 u15 u16 u17 u18 u19 u20 u21 u22 u23 u24 u25 u26 u27 u28 u29 u30 u31 u32 u33 u34 u35 u36 u37 u38 u39 u40 u41 u42 u43 u44 u45 u46 u47 u48 u49 u50 u51 u52 u53 u54 u55 u56 u57 u58 u59 u60 u61 u62 u63 u64 u65 u66 u67 u68 u69 u70 u71 u72 u73 u74 u75 u76 u77 u78 u79 u80 u81 u82 u83 u84 u85 u86 u87 u88 u89 u90 u91 u92 u93 u94 u95 u96 u97 u98 u99 u100 u101 u102 u103 u104 u105 u106 u107 u108 u109 u110 u111 u112 u113 u114 u115 u116 u117 u118 u119 u120 u121 u122 u123 u124 u125 u126 u127 u128 u129 u130 u131 u132 u133 u134 u135 u136 u137 u138 u139 u140 u141 u142 u143 u144 u145 u146 u147 u148 u149 u150 u151 u152 u153 u154 u155 u156 u157 u158 u159 u160 u161 u162 u163 u164 u165 u166 u167 u168 u169 u170 u171 u172 u173 u174 u175 u176 u177 u178 u179 u180 u181 u182 u183 u184 u185 u186 u187 u188 u189 u190 u191 u192 u193 u194 u195 u196 u197 u198 u199 u200 u201 u202 u203 u204 u205 u206 u207 u208 u209 u210 u211 u212 u213 u214 u215 u216 u217 u218 u219 u220 u221 u222 u223 u224 u225 u226 u227 u228 u229 u230 u231 u232 u233 u234 u235 u236 u237 u238 u239 u240 u241 u242 u243 u244 u245 u246 u247 u248 u249 u250 u251 u252 u253 u254 u255 u256 u257 u258 u259 u260 u261 u262 u263 u264 u265 u266 u267 : Value} :
    Code.wp Try.prog tailC (bodyPost Try.prog Try.f3 R) ⟨#[u0, .int .i64 look, u2, u3, u4, .pointer (some ⟨gg, 0, none⟩), .pointer (some ⟨oo, 0, none⟩), .pointer (some ⟨a7, 0, none⟩), .pointer (some ⟨a8, 0, none⟩), .pointer (some ⟨a9, 0, none⟩), .pointer (some ⟨a10, 0, none⟩), u11, u12, u13, u14, u15, u16, u17, u18, u19, u20, u21, u22, u23, u24, u25, u26, u27, u28, u29, u30, u31, u32, u33, u34, u35, u36, u37, u38, u39, u40, u41, u42, u43, u44, u45, u46, u47, u48, u49, u50, u51, u52, u53, u54, u55, u56, u57, u58, u59, u60, u61, u62, u63, u64, u65, u66, u67, u68, u69, u70, u71, u72, u73, u74, u75, u76, u77, u78, u79, u80, u81, u82, u83, u84, u85, u86, u87, u88, u89, u90, u91, u92, u93, u94, u95, u96, u97, u98, u99, u100, u101, u102, u103, u104, u105, u106, u107, u108, u109, u110, u111, u112, u113, u114, u115, u116, u117, u118, u119, u120, u121, u122, u123, u124, u125, u126, u127, u128, u129, u130, u131, u132, u133, u134, u135, u136, u137, u138, u139, u140, u141, u142, u143, u144, u145, u146, u147, u148, u149, u150, u151, u152, u153, u154, u155, u156, u157, u158, u159, u160, u161, u162, u163, u164, u165, u166, u167, u168, u169, u170, u171, u172, u173, u174, u175, u176, u177, u178, u179, u180, u181, u182, u183, u184, u185, u186, u187, u188, u189, u190, u191, u192, u193, u194, u195, u196, u197, u198, u199, u200, u201, u202, u203, u204, u205, u206, u207, u208, u209, u210, u211, u212, u213, u214, u215, u216, u217, u218, u219, u220, u221, u222, u223, u224, u225, u226, u227, u228, u229, u230, u231, u232, u233, u234, u235, u236, u237, u238, u239, u240, u241, u242, u243, u244, u245, u246, u247, u248, u249, u250, u251, u252, u253, u254, u255, u256, u257, u258, u259, u260, u261, u262, u263, u264, u265, u266, u267], []⟩ W := by
  conv => arg 2; whnf
  replace hn := hid hn
  go_wp2_with fail
  rename ∀ (a : Act) (w : World), Code.wp _ _ _ a w → _ => aK1
  replace aK1 := hid aK1
  go_loopw [16, 17, 18, 19] (fun s16 s17 s18 s19 wr => ∃ k v : Nat, 1 ≤ k ∧ k ≤ 256 ∧ s17 = .int .i64 (v : Int) ∧ s19 = .int .i64 (k : Int) ∧ RowOwn inT wr W.heap.size s16 (idsB I k) ∧ FreshAt I k v ∧ RowOwn enT wr W.heap.size s18 (chgL A B I J k) ∧ Below W.heap.size W wr) (fun _ _ _ s19 _ => 256 - (intOf s19).toNat)
  case atStart => exact ⟨1, 0, by omega, by omega, rfl, rfl, RowOwn.nil _ _, .inl ⟨rfl, fun i h1 h2 => by omega⟩, RowOwn.nil _ _, Below.refl _ _⟩
  case round =>
    obtain ⟨k, v, hk1, hk2, rfl, rfl, O16, hF, O18, hb⟩ := hrel
    by_cases hlt : k < 256
    · have hkk : (k : Int) < 256 := by omega
      have hkn : k < 256 := hlt
      have M6 := hid (hM.out.more hb)
      have D6 := hid hb
      have O16h := hid O16
      have O18h := hid O18
      have hmeas := hid (meas_up9 256 k hlt)
      have hw1 : wrap64 ((k : Int) + 1) = ((k + 1 : Nat) : Int) := by
        rw [IntWalk.wrap64_in _ ⟨by omega, by omega⟩]
        rfl
      have hids := hid (idsB_succ I k)
      have hsucc := hid (chgL_succ A B I J hk1)
      have hlen := hid (show (chgL A B I J k).length ≤ 256 from Nat.le_trans (chgL_len A B I J k) hk2)
      have hlen2 := hid (show (idsB I k).length ≤ 256 from Nat.le_trans (idsB_len I k) hk2)
      obtain ⟨C9, B9, N9⟩ := M6.out.c9
      have hC0 := N9.cell B9 hkn
      clear hb O16 O18 hlt B9 N9
      cases hI : I k with
      | false =>
        have hIh := hid hI
        rw [hI] at hC0
        clear hI
        rcases Nat.eq_zero_or_pos v with hv0 | hv0
        · subst hv0
          have hFn := hid (FreshAt.next0 hF hk1 hIh.out)
          clear hF
          go_upto_region 37 with (fail)
          clear hC0
          obtain ⟨wq, hwq⟩ : ∃ W, W = wr := ⟨_, rfl⟩
          rw [← hwq] at O16h O18h D6 M6 ⊢
          clear hwq
          have S : Bool := true
          obtain ⟨C9, B9, N9⟩ := M6.out.drew.c9
          have hc9 : ∀ W, Below wq.drew.heap.size wq.drew W → W.cell? ⟨a9, k, none⟩ = some (.bool false) := fun W h => by have := N9.cell (B9.more h) hkn; rwa [hIh.out] at this
          clear B9 N9
          generalize hV : tabF k a7 a8 a9 a10 A B S = V
          refine wp_region_inv 18 (fun D vs wx => IB wq.drew V D vs wx) (by kernel_rfl) (by kernel_rfl) ?h0 ?hstep ?hend
          case h0 => exact ⟨Vals.nil, Below.refl _ _⟩
          case hstep =>
            intro n o hj ho D vs ax wx hDj hD hv hbase H
            rcases (show n = 0 ∨ n = 1 ∨ n = 2 ∨ n = 3 ∨ n = 4 ∨ n = 5 ∨ n = 6 ∨ n = 7 ∨ n = 8 ∨ n = 9 ∨ n = 10 ∨ n = 11 ∨ n = 12 ∨ n = 13 ∨ n = 14 ∨ n = 15 ∨ n = 16 ∨ n = 17 by omega) with rfl | rfl | rfl | rfl | rfl | rfl | rfl | rfl | rfl | rfl | rfl | rfl | rfl | rfl | rfl | rfl | rfl | rfl
            all_goals
              simp only [List.getElem?_cons_zero, List.getElem?_cons_succ, Option.some.injEq] at ho
              subst ho
            · have f19 := at_base hbase 19 (by kernel_rfl) (v := .int .i64 (k : Int)) rfl
              exact StepOf.value (.int .i64 (k : Int)) (wanted_plain rfl _) (by simp [execOp, Act.eval, f19, go_sem]) (H.quiet 0 _ (by rw [← hV]; rfl))
            · have f9 := at_base hbase 9 (by kernel_rfl) (v := .pointer (some ⟨a9, 0, none⟩)) rfl
              have e0 := at_done H.vals hv (hD 0 (by kernel_rfl)) 142 (by kernel_rfl) (v := .int .i64 (k : Int)) (by rw [← hV]; rfl)
              exact StepOf.value (.pointer (some ⟨a9, k, none⟩)) (wanted_plain rfl _) (by simp [execOp, Act.eval, f9, e0, hkk, hkn, go_sem]) (H.quiet 1 _ (by rw [← hV]; rfl))
            · have e1 := at_done H.vals hv (hD 1 (by kernel_rfl)) 143 (by kernel_rfl) (v := .pointer (some ⟨a9, k, none⟩)) (by rw [← hV]; rfl)
              have hc := hc9 _ H.low
              exact StepOf.value (.bool false) (wanted_plain rfl _) (by simp [execOp, Act.eval, e1, hc, go_sem]) (H.quiet 2 _ (by rw [← hV]; rfl))
            · have e2 := at_done H.vals hv (hD 2 (by kernel_rfl)) 144 (by kernel_rfl) (v := .bool false) (by rw [← hV]; rfl)
              exact StepOf.value (.bool false) (wanted_plain rfl _) (by simp [execOp, Act.eval, e2, go_sem]) (H.quiet 3 _ (by rw [← hV]; rfl))
            · have e3 := at_done H.vals hv (hD 3 (by kernel_rfl)) 145 (by kernel_rfl) (v := .bool false) (by rw [← hV]; rfl)
              exact StepOf.kept (wanted_off9 rfl (t := 145) rfl e3 (.inl rfl)) (H.quiet 4 undef (by rw [← hV]; rfl))
            · have e3 := at_done H.vals hv (hD 3 (by kernel_rfl)) 145 (by kernel_rfl) (v := .bool false) (by rw [← hV]; rfl)
              exact StepOf.kept (wanted_off9 rfl (t := 145) rfl e3 (.inl rfl)) (H.quiet 5 undef (by rw [← hV]; rfl))
            · have e3 := at_done H.vals hv (hD 3 (by kernel_rfl)) 145 (by kernel_rfl) (v := .bool false) (by rw [← hV]; rfl)
              exact StepOf.kept (wanted_off9 rfl (t := 145) rfl e3 (.inl rfl)) (H.quiet 6 undef (by rw [← hV]; rfl))
            · have e3 := at_done H.vals hv (hD 3 (by kernel_rfl)) 145 (by kernel_rfl) (v := .bool false) (by rw [← hV]; rfl)
              exact StepOf.kept (wanted_off9 rfl (t := 145) rfl e3 (.inl rfl)) (H.quiet 7 undef (by rw [← hV]; rfl))
            · have e3 := at_done H.vals hv (hD 3 (by kernel_rfl)) 145 (by kernel_rfl) (v := .bool false) (by rw [← hV]; rfl)
              exact StepOf.kept (wanted_off9 rfl (t := 145) rfl e3 (.inl rfl)) (H.quiet 8 undef (by rw [← hV]; rfl))
            · have e8 := at_done H.vals hv (hD 8 (by kernel_rfl)) 150 (by kernel_rfl) (v := undef) (by rw [← hV]; rfl)
              exact StepOf.kept (wanted_off9 rfl (t := 150) rfl e8 (.inr rfl)) (H.quiet 9 undef (by rw [← hV]; rfl))
            · have e8 := at_done H.vals hv (hD 8 (by kernel_rfl)) 150 (by kernel_rfl) (v := undef) (by rw [← hV]; rfl)
              exact StepOf.kept (wanted_off9 rfl (t := 150) rfl e8 (.inr rfl)) (H.quiet 10 undef (by rw [← hV]; rfl))
            · have e8 := at_done H.vals hv (hD 8 (by kernel_rfl)) 150 (by kernel_rfl) (v := undef) (by rw [← hV]; rfl)
              exact StepOf.kept (wanted_off9 rfl (t := 150) rfl e8 (.inr rfl)) (H.quiet 11 undef (by rw [← hV]; rfl))
            · have e8 := at_done H.vals hv (hD 8 (by kernel_rfl)) 150 (by kernel_rfl) (v := undef) (by rw [← hV]; rfl)
              exact StepOf.kept (wanted_off9 rfl (t := 150) rfl e8 (.inr rfl)) (H.quiet 12 undef (by rw [← hV]; rfl))
            · have e8 := at_done H.vals hv (hD 8 (by kernel_rfl)) 150 (by kernel_rfl) (v := undef) (by rw [← hV]; rfl)
              exact StepOf.kept (wanted_off9 rfl (t := 150) rfl e8 (.inr rfl)) (H.quiet 13 undef (by rw [← hV]; rfl))
            · have e8 := at_done H.vals hv (hD 8 (by kernel_rfl)) 150 (by kernel_rfl) (v := undef) (by rw [← hV]; rfl)
              exact StepOf.kept (wanted_off9 rfl (t := 150) rfl e8 (.inr rfl)) (H.quiet 14 undef (by rw [← hV]; rfl))
            · have e8 := at_done H.vals hv (hD 8 (by kernel_rfl)) 150 (by kernel_rfl) (v := undef) (by rw [← hV]; rfl)
              exact StepOf.kept (wanted_off9 rfl (t := 150) rfl e8 (.inr rfl)) (H.quiet 15 undef (by rw [← hV]; rfl))
            · have e8 := at_done H.vals hv (hD 8 (by kernel_rfl)) 150 (by kernel_rfl) (v := undef) (by rw [← hV]; rfl)
              exact StepOf.kept (wanted_off9 rfl (t := 150) rfl e8 (.inr rfl)) (H.quiet 16 undef (by rw [← hV]; rfl))
            · have e3 := at_done H.vals hv (hD 3 (by kernel_rfl)) 145 (by kernel_rfl) (v := .bool false) (by rw [← hV]; rfl)
              exact StepOf.kept (wanted_off9 rfl (t := 145) rfl e3 (.inl rfl)) (H.quiet 17 undef (by rw [← hV]; rfl))
          case hend =>
            intro D vs W7x hall H
            have hlow := hid H.low
            have v0 := H.vals 0 _ (hall 0 (by omega)) (by rw [← hV]; rfl)
            have v1 := H.vals 1 _ (hall 1 (by omega)) (by rw [← hV]; rfl)
            have v2 := H.vals 2 _ (hall 2 (by omega)) (by rw [← hV]; rfl)
            have v3 := H.vals 3 _ (hall 3 (by omega)) (by rw [← hV]; rfl)
            have v4 := H.vals 4 _ (hall 4 (by omega)) (by rw [← hV]; rfl)
            have v5 := H.vals 5 _ (hall 5 (by omega)) (by rw [← hV]; rfl)
            have v6 := H.vals 6 _ (hall 6 (by omega)) (by rw [← hV]; rfl)
            have v7 := H.vals 7 _ (hall 7 (by omega)) (by rw [← hV]; rfl)
            have v8 := H.vals 8 _ (hall 8 (by omega)) (by rw [← hV]; rfl)
            have v9 := H.vals 9 _ (hall 9 (by omega)) (by rw [← hV]; rfl)
            have v10 := H.vals 10 _ (hall 10 (by omega)) (by rw [← hV]; rfl)
            have v11 := H.vals 11 _ (hall 11 (by omega)) (by rw [← hV]; rfl)
            have v12 := H.vals 12 _ (hall 12 (by omega)) (by rw [← hV]; rfl)
            have v13 := H.vals 13 _ (hall 13 (by omega)) (by rw [← hV]; rfl)
            have v14 := H.vals 14 _ (hall 14 (by omega)) (by rw [← hV]; rfl)
            have v15 := H.vals 15 _ (hall 15 (by omega)) (by rw [← hV]; rfl)
            have v16 := H.vals 16 _ (hall 16 (by omega)) (by rw [← hV]; rfl)
            have v17 := H.vals 17 _ (hall 17 (by omega)) (by rw [← hV]; rfl)
            simp only [puts, List.range, List.range.loop, List.foldl_cons, List.foldl_nil, List.getElem?_toArray, List.getElem?_cons_succ, List.getElem?_cons_zero, Option.bind_some, Option.bind_none, Act.put, List.setIfInBounds_toArray, List.set_cons_succ, List.set_cons_zero, v0, v1, v2, v3, v4, v5, v6, v7, v8, v9, v10, v11, v12, v13, v14, v15, v16, v17]
            simp only [List.drop_succ_cons, List.drop_zero]
            clear v0 v1 v2 v3 v4 v5 v6 v7 v8 v9 v10 v11 v12 v13 v14 v15 v16 v17 hall H hV hc9
            have D8 := hid (below2 D6.out.drew hlow.out D6.out.drew.size)
            have M8 := hid (M6.out.drew.more hlow.out)
            have P16 := hid ((O16h.out.more (Below.refl _ _).drew).more hlow.out)
            have P18 := hid ((O18h.out.more (Below.refl _ _).drew).more hlow.out)
            clear M6 D6 O16h O18h hlow
            cases hJ : J k with
            | true =>
              have hJh := hid hJ
              clear hJ
              obtain ⟨C9, B9, N9⟩ := M8.out.c9
              have hCi := N9.cell B9 hkn
              rw [hIh.out] at hCi
              clear B9 N9
              obtain ⟨C10, B10, N10⟩ := M8.out.c10
              have hCj := N10.cell B10 hkn
              rw [hJh.out] at hCj
              clear B10 N10
              obtain ⟨v9, w9, hr0, O9, S9, b9⟩ := row_grow2 enOk P18.out D8.out.size ⟨2, (k : Int)⟩ #[.int .i64 2, .int .i64 (k : Int)] rfl (by show (_ + 1) * 16 ≤ _; have := hlen.out; omega) (by unfold maxLen; have := hlen.out; omega)
              have hr := hid hr0
              have O18k := hid O9
              have D9 := hid (D8.out.trans b9)
              have O16k := hid (RowOwn.sole (P16.out.more (below_one W7x (.cells #[.int .i64 2, .int .i64 (k : Int)] 42))) S9 (fun bb h h2 => own_apart P18.out P16.out (by decide) bb h2 h))
              have M9 := hid (hM.out.more D9.out)
              clear hr0 O9 S9 b9 P16 P18 D8 M8
              go_wp2_with (at_builtin; refine Lib.wpList_append_run _ rfl _ _ _ _ rfl _ _ rfl rfl _ _ (hr.out _) ?_)
              exact ⟨⟨k + 1, k, by omega, by omega, rfl, rfl, by rw [hids.out, show idsB1 I k = [] by unfold idsB1; rw [hIh.out]; simp, List.append_nil]; exact O16k.out, hFn.out, by rw [hsucc.out, show chg1 A B I J k = [⟨2, (k : Int)⟩] by unfold chg1; rw [hIh.out, hJh.out]; rfl]; exact O18k.out, D9.out⟩, hmeas.out _ rfl⟩
            | false =>
              have hJh := hid hJ
              clear hJ
              obtain ⟨C9, B9, N9⟩ := M8.out.c9
              have hCi := N9.cell B9 hkn
              rw [hIh.out] at hCi
              clear B9 N9
              obtain ⟨C10, B10, N10⟩ := M8.out.c10
              have hCj := N10.cell B10 hkn
              rw [hJh.out] at hCj
              clear B10 N10
              go_wp2_with fail
              exact ⟨⟨k + 1, k, by omega, by omega, rfl, rfl, by rw [hids.out, show idsB1 I k = [] by unfold idsB1; rw [hIh.out]; simp, List.append_nil]; exact P16.out, hFn.out, by rw [hsucc.out, show chg1 A B I J k = [] by unfold chg1; rw [hIh.out, hJh.out]; rfl, List.append_nil]; exact P18.out, D8.out⟩, hmeas.out _ rfl⟩
        · have hFn := hid (FreshAt.next1 hF hv0 hk1)
          have hv1 : (v : Int) ≠ 0 := by omega
          have hv2 : ¬ v = 0 := by omega
          clear hF
          go_upto_region 37 with (fail)
          clear hC0
          obtain ⟨wq, hwq⟩ : ∃ W, W = wr := ⟨_, rfl⟩
          rw [← hwq] at O16h O18h D6 M6 ⊢
          clear hwq
          have S : Bool := true
          obtain ⟨C9, B9, N9⟩ := M6.out.drew.c9
          have hc9 : ∀ W, Below wq.drew.heap.size wq.drew W → W.cell? ⟨a9, k, none⟩ = some (.bool false) := fun W h => by have := N9.cell (B9.more h) hkn; rwa [hIh.out] at this
          clear B9 N9
          generalize hV : tabF k a7 a8 a9 a10 A B S = V
          refine wp_region_inv 18 (fun D vs wx => IB wq.drew V D vs wx) (by kernel_rfl) (by kernel_rfl) ?h0 ?hstep ?hend
          case h0 => exact ⟨Vals.nil, Below.refl _ _⟩
          case hstep =>
            intro n o hj ho D vs ax wx hDj hD hv hbase H
            rcases (show n = 0 ∨ n = 1 ∨ n = 2 ∨ n = 3 ∨ n = 4 ∨ n = 5 ∨ n = 6 ∨ n = 7 ∨ n = 8 ∨ n = 9 ∨ n = 10 ∨ n = 11 ∨ n = 12 ∨ n = 13 ∨ n = 14 ∨ n = 15 ∨ n = 16 ∨ n = 17 by omega) with rfl | rfl | rfl | rfl | rfl | rfl | rfl | rfl | rfl | rfl | rfl | rfl | rfl | rfl | rfl | rfl | rfl | rfl
            all_goals
              simp only [List.getElem?_cons_zero, List.getElem?_cons_succ, Option.some.injEq] at ho
              subst ho
            · have f19 := at_base hbase 19 (by kernel_rfl) (v := .int .i64 (k : Int)) rfl
              exact StepOf.value (.int .i64 (k : Int)) (wanted_plain rfl _) (by simp [execOp, Act.eval, f19, go_sem]) (H.quiet 0 _ (by rw [← hV]; rfl))
            · have f9 := at_base hbase 9 (by kernel_rfl) (v := .pointer (some ⟨a9, 0, none⟩)) rfl
              have e0 := at_done H.vals hv (hD 0 (by kernel_rfl)) 142 (by kernel_rfl) (v := .int .i64 (k : Int)) (by rw [← hV]; rfl)
              exact StepOf.value (.pointer (some ⟨a9, k, none⟩)) (wanted_plain rfl _) (by simp [execOp, Act.eval, f9, e0, hkk, hkn, go_sem]) (H.quiet 1 _ (by rw [← hV]; rfl))
            · have e1 := at_done H.vals hv (hD 1 (by kernel_rfl)) 143 (by kernel_rfl) (v := .pointer (some ⟨a9, k, none⟩)) (by rw [← hV]; rfl)
              have hc := hc9 _ H.low
              exact StepOf.value (.bool false) (wanted_plain rfl _) (by simp [execOp, Act.eval, e1, hc, go_sem]) (H.quiet 2 _ (by rw [← hV]; rfl))
            · have e2 := at_done H.vals hv (hD 2 (by kernel_rfl)) 144 (by kernel_rfl) (v := .bool false) (by rw [← hV]; rfl)
              exact StepOf.value (.bool false) (wanted_plain rfl _) (by simp [execOp, Act.eval, e2, go_sem]) (H.quiet 3 _ (by rw [← hV]; rfl))
            · have e3 := at_done H.vals hv (hD 3 (by kernel_rfl)) 145 (by kernel_rfl) (v := .bool false) (by rw [← hV]; rfl)
              exact StepOf.kept (wanted_off9 rfl (t := 145) rfl e3 (.inl rfl)) (H.quiet 4 undef (by rw [← hV]; rfl))
            · have e3 := at_done H.vals hv (hD 3 (by kernel_rfl)) 145 (by kernel_rfl) (v := .bool false) (by rw [← hV]; rfl)
              exact StepOf.kept (wanted_off9 rfl (t := 145) rfl e3 (.inl rfl)) (H.quiet 5 undef (by rw [← hV]; rfl))
            · have e3 := at_done H.vals hv (hD 3 (by kernel_rfl)) 145 (by kernel_rfl) (v := .bool false) (by rw [← hV]; rfl)
              exact StepOf.kept (wanted_off9 rfl (t := 145) rfl e3 (.inl rfl)) (H.quiet 6 undef (by rw [← hV]; rfl))
            · have e3 := at_done H.vals hv (hD 3 (by kernel_rfl)) 145 (by kernel_rfl) (v := .bool false) (by rw [← hV]; rfl)
              exact StepOf.kept (wanted_off9 rfl (t := 145) rfl e3 (.inl rfl)) (H.quiet 7 undef (by rw [← hV]; rfl))
            · have e3 := at_done H.vals hv (hD 3 (by kernel_rfl)) 145 (by kernel_rfl) (v := .bool false) (by rw [← hV]; rfl)
              exact StepOf.kept (wanted_off9 rfl (t := 145) rfl e3 (.inl rfl)) (H.quiet 8 undef (by rw [← hV]; rfl))
            · have e8 := at_done H.vals hv (hD 8 (by kernel_rfl)) 150 (by kernel_rfl) (v := undef) (by rw [← hV]; rfl)
              exact StepOf.kept (wanted_off9 rfl (t := 150) rfl e8 (.inr rfl)) (H.quiet 9 undef (by rw [← hV]; rfl))
            · have e8 := at_done H.vals hv (hD 8 (by kernel_rfl)) 150 (by kernel_rfl) (v := undef) (by rw [← hV]; rfl)
              exact StepOf.kept (wanted_off9 rfl (t := 150) rfl e8 (.inr rfl)) (H.quiet 10 undef (by rw [← hV]; rfl))
            · have e8 := at_done H.vals hv (hD 8 (by kernel_rfl)) 150 (by kernel_rfl) (v := undef) (by rw [← hV]; rfl)
              exact StepOf.kept (wanted_off9 rfl (t := 150) rfl e8 (.inr rfl)) (H.quiet 11 undef (by rw [← hV]; rfl))
            · have e8 := at_done H.vals hv (hD 8 (by kernel_rfl)) 150 (by kernel_rfl) (v := undef) (by rw [← hV]; rfl)
              exact StepOf.kept (wanted_off9 rfl (t := 150) rfl e8 (.inr rfl)) (H.quiet 12 undef (by rw [← hV]; rfl))
            · have e8 := at_done H.vals hv (hD 8 (by kernel_rfl)) 150 (by kernel_rfl) (v := undef) (by rw [← hV]; rfl)
              exact StepOf.kept (wanted_off9 rfl (t := 150) rfl e8 (.inr rfl)) (H.quiet 13 undef (by rw [← hV]; rfl))
            · have e8 := at_done H.vals hv (hD 8 (by kernel_rfl)) 150 (by kernel_rfl) (v := undef) (by rw [← hV]; rfl)
              exact StepOf.kept (wanted_off9 rfl (t := 150) rfl e8 (.inr rfl)) (H.quiet 14 undef (by rw [← hV]; rfl))
            · have e8 := at_done H.vals hv (hD 8 (by kernel_rfl)) 150 (by kernel_rfl) (v := undef) (by rw [← hV]; rfl)
              exact StepOf.kept (wanted_off9 rfl (t := 150) rfl e8 (.inr rfl)) (H.quiet 15 undef (by rw [← hV]; rfl))
            · have e8 := at_done H.vals hv (hD 8 (by kernel_rfl)) 150 (by kernel_rfl) (v := undef) (by rw [← hV]; rfl)
              exact StepOf.kept (wanted_off9 rfl (t := 150) rfl e8 (.inr rfl)) (H.quiet 16 undef (by rw [← hV]; rfl))
            · have e3 := at_done H.vals hv (hD 3 (by kernel_rfl)) 145 (by kernel_rfl) (v := .bool false) (by rw [← hV]; rfl)
              exact StepOf.kept (wanted_off9 rfl (t := 145) rfl e3 (.inl rfl)) (H.quiet 17 undef (by rw [← hV]; rfl))
          case hend =>
            intro D vs W7x hall H
            have hlow := hid H.low
            have v0 := H.vals 0 _ (hall 0 (by omega)) (by rw [← hV]; rfl)
            have v1 := H.vals 1 _ (hall 1 (by omega)) (by rw [← hV]; rfl)
            have v2 := H.vals 2 _ (hall 2 (by omega)) (by rw [← hV]; rfl)
            have v3 := H.vals 3 _ (hall 3 (by omega)) (by rw [← hV]; rfl)
            have v4 := H.vals 4 _ (hall 4 (by omega)) (by rw [← hV]; rfl)
            have v5 := H.vals 5 _ (hall 5 (by omega)) (by rw [← hV]; rfl)
            have v6 := H.vals 6 _ (hall 6 (by omega)) (by rw [← hV]; rfl)
            have v7 := H.vals 7 _ (hall 7 (by omega)) (by rw [← hV]; rfl)
            have v8 := H.vals 8 _ (hall 8 (by omega)) (by rw [← hV]; rfl)
            have v9 := H.vals 9 _ (hall 9 (by omega)) (by rw [← hV]; rfl)
            have v10 := H.vals 10 _ (hall 10 (by omega)) (by rw [← hV]; rfl)
            have v11 := H.vals 11 _ (hall 11 (by omega)) (by rw [← hV]; rfl)
            have v12 := H.vals 12 _ (hall 12 (by omega)) (by rw [← hV]; rfl)
            have v13 := H.vals 13 _ (hall 13 (by omega)) (by rw [← hV]; rfl)
            have v14 := H.vals 14 _ (hall 14 (by omega)) (by rw [← hV]; rfl)
            have v15 := H.vals 15 _ (hall 15 (by omega)) (by rw [← hV]; rfl)
            have v16 := H.vals 16 _ (hall 16 (by omega)) (by rw [← hV]; rfl)
            have v17 := H.vals 17 _ (hall 17 (by omega)) (by rw [← hV]; rfl)
            simp only [puts, List.range, List.range.loop, List.foldl_cons, List.foldl_nil, List.getElem?_toArray, List.getElem?_cons_succ, List.getElem?_cons_zero, Option.bind_some, Option.bind_none, Act.put, List.setIfInBounds_toArray, List.set_cons_succ, List.set_cons_zero, v0, v1, v2, v3, v4, v5, v6, v7, v8, v9, v10, v11, v12, v13, v14, v15, v16, v17]
            simp only [List.drop_succ_cons, List.drop_zero]
            clear v0 v1 v2 v3 v4 v5 v6 v7 v8 v9 v10 v11 v12 v13 v14 v15 v16 v17 hall H hV hc9
            have D8 := hid (below2 D6.out.drew hlow.out D6.out.drew.size)
            have M8 := hid (M6.out.drew.more hlow.out)
            have P16 := hid ((O16h.out.more (Below.refl _ _).drew).more hlow.out)
            have P18 := hid ((O18h.out.more (Below.refl _ _).drew).more hlow.out)
            clear M6 D6 O16h O18h hlow
            cases hJ : J k with
            | true =>
              have hJh := hid hJ
              clear hJ
              obtain ⟨C9, B9, N9⟩ := M8.out.c9
              have hCi := N9.cell B9 hkn
              rw [hIh.out] at hCi
              clear B9 N9
              obtain ⟨C10, B10, N10⟩ := M8.out.c10
              have hCj := N10.cell B10 hkn
              rw [hJh.out] at hCj
              clear B10 N10
              obtain ⟨v9, w9, hr0, O9, S9, b9⟩ := row_grow2 enOk P18.out D8.out.size ⟨2, (k : Int)⟩ #[.int .i64 2, .int .i64 (k : Int)] rfl (by show (_ + 1) * 16 ≤ _; have := hlen.out; omega) (by unfold maxLen; have := hlen.out; omega)
              have hr := hid hr0
              have O18k := hid O9
              have D9 := hid (D8.out.trans b9)
              have O16k := hid (RowOwn.sole (P16.out.more (below_one W7x (.cells #[.int .i64 2, .int .i64 (k : Int)] 42))) S9 (fun bb h h2 => own_apart P18.out P16.out (by decide) bb h2 h))
              have M9 := hid (hM.out.more D9.out)
              clear hr0 O9 S9 b9 P16 P18 D8 M8
              go_wp2_with (at_builtin; refine Lib.wpList_append_run _ rfl _ _ _ _ rfl _ _ rfl rfl _ _ (hr.out _) ?_)
              exact ⟨⟨k + 1, v, by omega, by omega, rfl, rfl, by rw [hids.out, show idsB1 I k = [] by unfold idsB1; rw [hIh.out]; simp, List.append_nil]; exact O16k.out, hFn.out, by rw [hsucc.out, show chg1 A B I J k = [⟨2, (k : Int)⟩] by unfold chg1; rw [hIh.out, hJh.out]; rfl]; exact O18k.out, D9.out⟩, hmeas.out _ rfl⟩
            | false =>
              have hJh := hid hJ
              clear hJ
              obtain ⟨C9, B9, N9⟩ := M8.out.c9
              have hCi := N9.cell B9 hkn
              rw [hIh.out] at hCi
              clear B9 N9
              obtain ⟨C10, B10, N10⟩ := M8.out.c10
              have hCj := N10.cell B10 hkn
              rw [hJh.out] at hCj
              clear B10 N10
              go_wp2_with fail
              exact ⟨⟨k + 1, v, by omega, by omega, rfl, rfl, by rw [hids.out, show idsB1 I k = [] by unfold idsB1; rw [hIh.out]; simp, List.append_nil]; exact P16.out, hFn.out, by rw [hsucc.out, show chg1 A B I J k = [] by unfold chg1; rw [hIh.out, hJh.out]; rfl, List.append_nil]; exact P18.out, D8.out⟩, hmeas.out _ rfl⟩
      | true =>
        have hIh := hid hI
        rw [hI] at hC0
        clear hI
        have hFn := hid (FreshAt.nextT hF hk1 hIh.out)
        clear hF
        obtain ⟨v9, w9, hr0, O9, S9, b9⟩ := row_grow2 inOk O16h.out D6.out.size (k : Int) #[.int .i64 (k : Int)] rfl (by show (_ + 1) * 8 ≤ _; have := hlen2.out; omega) (by unfold maxLen; have := hlen2.out; omega)
        have hr := hid hr0
        have O16k := hid O9
        have D9 := hid (D6.out.trans b9)
        have O18k := hid (RowOwn.sole (O18h.out.more (below_one wr (.cells #[.int .i64 (k : Int)] 3))) S9 (fun bb h h2 => own_apart O16h.out O18h.out (by decide) bb h2 h))
        have M9 := hid (hM.out.more D9.out)
        clear hr0 O9 S9 b9 O16h O18h D6 M6
        go_upto_region 37 with (at_builtin; refine Lib.wpList_append_run _ rfl _ _ _ _ rfl _ _ rfl rfl _ _ (hr.out _) ?_)
        clear hr hC0
        have O16h := O16k
        have O18h := O18k
        have D6 := D9
        have M6 := M9
        clear O16k O18k D9 M9
        generalize w9 = wq at *
        cases hJ : J k with
        | false =>
          have hJh := hid hJ
          clear hJ
          have S : Bool := true
          obtain ⟨C9, B9, N9⟩ := M6.out.drew.c9
          have hc9 : ∀ W, Below wq.drew.heap.size wq.drew W → W.cell? ⟨a9, k, none⟩ = some (.bool true) := fun W h => by have := N9.cell (B9.more h) hkn; rwa [hIh.out] at this
          obtain ⟨C10, B10, N10⟩ := M6.out.drew.c10
          have hc10 : ∀ W, Below wq.drew.heap.size wq.drew W → W.cell? ⟨a10, k, none⟩ = some (.bool false) := fun W h => by have := N10.cell (B10.more h) hkn; rwa [hJh.out] at this
          clear B9 N9 B10 N10
          generalize hV : tabT k a7 a8 a9 a10 A B S = V
          refine wp_region_inv 18 (fun D vs wx => IB wq.drew V D vs wx) (by kernel_rfl) (by kernel_rfl) ?h0 ?hstep ?hend
          case h0 => exact ⟨Vals.nil, Below.refl _ _⟩
          case hstep =>
            intro n o hj ho D vs ax wx hDj hD hv hbase H
            rcases (show n = 0 ∨ n = 1 ∨ n = 2 ∨ n = 3 ∨ n = 4 ∨ n = 5 ∨ n = 6 ∨ n = 7 ∨ n = 8 ∨ n = 9 ∨ n = 10 ∨ n = 11 ∨ n = 12 ∨ n = 13 ∨ n = 14 ∨ n = 15 ∨ n = 16 ∨ n = 17 by omega) with rfl | rfl | rfl | rfl | rfl | rfl | rfl | rfl | rfl | rfl | rfl | rfl | rfl | rfl | rfl | rfl | rfl | rfl
            all_goals
              simp only [List.getElem?_cons_zero, List.getElem?_cons_succ, Option.some.injEq] at ho
              subst ho
            · have f19 := at_base hbase 19 (by kernel_rfl) (v := .int .i64 (k : Int)) rfl
              exact StepOf.value (.int .i64 (k : Int)) (wanted_plain rfl _) (by simp [execOp, Act.eval, f19, go_sem]) (H.quiet 0 _ (by rw [← hV]; rfl))
            · have f9 := at_base hbase 9 (by kernel_rfl) (v := .pointer (some ⟨a9, 0, none⟩)) rfl
              have e0 := at_done H.vals hv (hD 0 (by kernel_rfl)) 142 (by kernel_rfl) (v := .int .i64 (k : Int)) (by rw [← hV]; rfl)
              exact StepOf.value (.pointer (some ⟨a9, k, none⟩)) (wanted_plain rfl _) (by simp [execOp, Act.eval, f9, e0, hkk, hkn, go_sem]) (H.quiet 1 _ (by rw [← hV]; rfl))
            · have e1 := at_done H.vals hv (hD 1 (by kernel_rfl)) 143 (by kernel_rfl) (v := .pointer (some ⟨a9, k, none⟩)) (by rw [← hV]; rfl)
              have hc := hc9 _ H.low
              exact StepOf.value (.bool true) (wanted_plain rfl _) (by simp [execOp, Act.eval, e1, hc, go_sem]) (H.quiet 2 _ (by rw [← hV]; rfl))
            · have e2 := at_done H.vals hv (hD 2 (by kernel_rfl)) 144 (by kernel_rfl) (v := .bool true) (by rw [← hV]; rfl)
              exact StepOf.value (.bool true) (wanted_plain rfl _) (by simp [execOp, Act.eval, e2, go_sem]) (H.quiet 3 _ (by rw [← hV]; rfl))
            · have e3 := at_done H.vals hv (hD 3 (by kernel_rfl)) 145 (by kernel_rfl) (v := .bool true) (by rw [← hV]; rfl)
              have f19 := at_base hbase 19 (by kernel_rfl) (v := .int .i64 (k : Int)) rfl
              exact StepOf.value (.int .i64 (k : Int)) (wanted_on9 rfl (t := 145) rfl e3) (by simp [execOp, Act.eval, f19, go_sem]) (H.quiet 4 _ (by rw [← hV]; rfl))
            · have e3 := at_done H.vals hv (hD 3 (by kernel_rfl)) 145 (by kernel_rfl) (v := .bool true) (by rw [← hV]; rfl)
              have f10 := at_base hbase 10 (by kernel_rfl) (v := .pointer (some ⟨a10, 0, none⟩)) rfl
              have e4 := at_done H.vals hv (hD 4 (by kernel_rfl)) 146 (by kernel_rfl) (v := .int .i64 (k : Int)) (by rw [← hV]; rfl)
              exact StepOf.value (.pointer (some ⟨a10, k, none⟩)) (wanted_on9 rfl (t := 145) rfl e3) (by simp [execOp, Act.eval, f10, e4, hkk, hkn, go_sem]) (H.quiet 5 _ (by rw [← hV]; rfl))
            · have e3 := at_done H.vals hv (hD 3 (by kernel_rfl)) 145 (by kernel_rfl) (v := .bool true) (by rw [← hV]; rfl)
              have e5 := at_done H.vals hv (hD 5 (by kernel_rfl)) 147 (by kernel_rfl) (v := .pointer (some ⟨a10, k, none⟩)) (by rw [← hV]; rfl)
              have hc := hc10 _ H.low
              exact StepOf.value (.bool false) (wanted_on9 rfl (t := 145) rfl e3) (by simp [execOp, Act.eval, e5, hc, go_sem]) (H.quiet 6 _ (by rw [← hV]; rfl))
            · have e3 := at_done H.vals hv (hD 3 (by kernel_rfl)) 145 (by kernel_rfl) (v := .bool true) (by rw [← hV]; rfl)
              have e6 := at_done H.vals hv (hD 6 (by kernel_rfl)) 148 (by kernel_rfl) (v := .bool false) (by rw [← hV]; rfl)
              exact StepOf.value (.bool true) (wanted_on9 rfl (t := 145) rfl e3) (by simp [execOp, Act.eval, e6, go_sem]) (H.quiet 7 _ (by rw [← hV]; rfl))
            · have e3 := at_done H.vals hv (hD 3 (by kernel_rfl)) 145 (by kernel_rfl) (v := .bool true) (by rw [← hV]; rfl)
              have e7 := at_done H.vals hv (hD 7 (by kernel_rfl)) 149 (by kernel_rfl) (v := .bool true) (by rw [← hV]; rfl)
              exact StepOf.value (.bool true) (wanted_on9 rfl (t := 145) rfl e3) (by simp [execOp, Act.eval, e7, go_sem]) (H.quiet 8 _ (by rw [← hV]; rfl))
            · have e8 := at_done H.vals hv (hD 8 (by kernel_rfl)) 150 (by kernel_rfl) (v := .bool true) (by rw [← hV]; rfl)
              exact StepOf.kept (wanted_off9 rfl (t := 150) rfl e8 (.inl rfl)) (H.quiet 9 undef (by rw [← hV]; rfl))
            · have e8 := at_done H.vals hv (hD 8 (by kernel_rfl)) 150 (by kernel_rfl) (v := .bool true) (by rw [← hV]; rfl)
              exact StepOf.kept (wanted_off9 rfl (t := 150) rfl e8 (.inl rfl)) (H.quiet 10 undef (by rw [← hV]; rfl))
            · have e8 := at_done H.vals hv (hD 8 (by kernel_rfl)) 150 (by kernel_rfl) (v := .bool true) (by rw [← hV]; rfl)
              exact StepOf.kept (wanted_off9 rfl (t := 150) rfl e8 (.inl rfl)) (H.quiet 11 undef (by rw [← hV]; rfl))
            · have e8 := at_done H.vals hv (hD 8 (by kernel_rfl)) 150 (by kernel_rfl) (v := .bool true) (by rw [← hV]; rfl)
              exact StepOf.kept (wanted_off9 rfl (t := 150) rfl e8 (.inl rfl)) (H.quiet 12 undef (by rw [← hV]; rfl))
            · have e8 := at_done H.vals hv (hD 8 (by kernel_rfl)) 150 (by kernel_rfl) (v := .bool true) (by rw [← hV]; rfl)
              exact StepOf.kept (wanted_off9 rfl (t := 150) rfl e8 (.inl rfl)) (H.quiet 13 undef (by rw [← hV]; rfl))
            · have e8 := at_done H.vals hv (hD 8 (by kernel_rfl)) 150 (by kernel_rfl) (v := .bool true) (by rw [← hV]; rfl)
              exact StepOf.kept (wanted_off9 rfl (t := 150) rfl e8 (.inl rfl)) (H.quiet 14 undef (by rw [← hV]; rfl))
            · have e8 := at_done H.vals hv (hD 8 (by kernel_rfl)) 150 (by kernel_rfl) (v := .bool true) (by rw [← hV]; rfl)
              exact StepOf.kept (wanted_off9 rfl (t := 150) rfl e8 (.inl rfl)) (H.quiet 15 undef (by rw [← hV]; rfl))
            · have e8 := at_done H.vals hv (hD 8 (by kernel_rfl)) 150 (by kernel_rfl) (v := .bool true) (by rw [← hV]; rfl)
              exact StepOf.kept (wanted_off9 rfl (t := 150) rfl e8 (.inl rfl)) (H.quiet 16 undef (by rw [← hV]; rfl))
            · have e3 := at_done H.vals hv (hD 3 (by kernel_rfl)) 145 (by kernel_rfl) (v := .bool true) (by rw [← hV]; rfl)
              have e8 := at_done H.vals hv (hD 8 (by kernel_rfl)) 150 (by kernel_rfl) (v := .bool true) (by rw [← hV]; rfl)
              exact StepOf.value (.bool true) (wanted_on9 rfl (t := 145) rfl e3) (by simp [execOp, Act.eval, e8, go_sem]) (H.quiet 17 _ (by rw [← hV]; rfl))
          case hend =>
            intro D vs W7x hall H
            have hlow := hid H.low
            have v0 := H.vals 0 _ (hall 0 (by omega)) (by rw [← hV]; rfl)
            have v1 := H.vals 1 _ (hall 1 (by omega)) (by rw [← hV]; rfl)
            have v2 := H.vals 2 _ (hall 2 (by omega)) (by rw [← hV]; rfl)
            have v3 := H.vals 3 _ (hall 3 (by omega)) (by rw [← hV]; rfl)
            have v4 := H.vals 4 _ (hall 4 (by omega)) (by rw [← hV]; rfl)
            have v5 := H.vals 5 _ (hall 5 (by omega)) (by rw [← hV]; rfl)
            have v6 := H.vals 6 _ (hall 6 (by omega)) (by rw [← hV]; rfl)
            have v7 := H.vals 7 _ (hall 7 (by omega)) (by rw [← hV]; rfl)
            have v8 := H.vals 8 _ (hall 8 (by omega)) (by rw [← hV]; rfl)
            have v9 := H.vals 9 _ (hall 9 (by omega)) (by rw [← hV]; rfl)
            have v10 := H.vals 10 _ (hall 10 (by omega)) (by rw [← hV]; rfl)
            have v11 := H.vals 11 _ (hall 11 (by omega)) (by rw [← hV]; rfl)
            have v12 := H.vals 12 _ (hall 12 (by omega)) (by rw [← hV]; rfl)
            have v13 := H.vals 13 _ (hall 13 (by omega)) (by rw [← hV]; rfl)
            have v14 := H.vals 14 _ (hall 14 (by omega)) (by rw [← hV]; rfl)
            have v15 := H.vals 15 _ (hall 15 (by omega)) (by rw [← hV]; rfl)
            have v16 := H.vals 16 _ (hall 16 (by omega)) (by rw [← hV]; rfl)
            have v17 := H.vals 17 _ (hall 17 (by omega)) (by rw [← hV]; rfl)
            simp only [puts, List.range, List.range.loop, List.foldl_cons, List.foldl_nil, List.getElem?_toArray, List.getElem?_cons_succ, List.getElem?_cons_zero, Option.bind_some, Option.bind_none, Act.put, List.setIfInBounds_toArray, List.set_cons_succ, List.set_cons_zero, v0, v1, v2, v3, v4, v5, v6, v7, v8, v9, v10, v11, v12, v13, v14, v15, v16, v17]
            simp only [List.drop_succ_cons, List.drop_zero]
            clear v0 v1 v2 v3 v4 v5 v6 v7 v8 v9 v10 v11 v12 v13 v14 v15 v16 v17 hall H hV hc9 hc10
            have D8 := hid (below2 D6.out.drew hlow.out D6.out.drew.size)
            have M8 := hid (M6.out.drew.more hlow.out)
            have P16 := hid ((O16h.out.more (Below.refl _ _).drew).more hlow.out)
            have P18 := hid ((O18h.out.more (Below.refl _ _).drew).more hlow.out)
            clear M6 D6 O16h O18h hlow
            obtain ⟨v9, w9, hr0, O9, S9, b9⟩ := row_grow2 enOk P18.out D8.out.size ⟨1, (k : Int)⟩ #[.int .i64 1, .int .i64 (k : Int)] rfl (by show (_ + 1) * 16 ≤ _; have := hlen.out; omega) (by unfold maxLen; have := hlen.out; omega)
            have hr := hid hr0
            have O18k := hid O9
            have D9 := hid (D8.out.trans b9)
            have O16k := hid (RowOwn.sole (P16.out.more (below_one W7x (.cells #[.int .i64 1, .int .i64 (k : Int)] 42))) S9 (fun bb h h2 => own_apart P18.out P16.out (by decide) bb h2 h))
            have M9 := hid (hM.out.more D9.out)
            clear hr0 O9 S9 b9 P16 P18 D8 M8
            obtain ⟨C9, B9, N9⟩ := M9.out.c9
            have hCi := N9.cell B9 hkn
            rw [hIh.out] at hCi
            clear B9 N9
            go_wp2_with (at_builtin; refine Lib.wpList_append_run _ rfl _ _ _ _ rfl _ _ rfl rfl _ _ (hr.out _) ?_)
            exact ⟨⟨k + 1, v, by omega, by omega, rfl, rfl, by rw [hids.out, show idsB1 I k = [(k : Int)] by unfold idsB1; rw [hIh.out, decide_eq_true hk1]; rfl]; exact O16k.out, hFn.out, by rw [hsucc.out, show chg1 A B I J k = [⟨1, (k : Int)⟩] by unfold chg1; rw [hIh.out, hJh.out]; rfl]; exact O18k.out, D9.out⟩, hmeas.out _ rfl⟩
        | true =>
          have hJh := hid hJ
          clear hJ
          obtain ⟨S, hS⟩ : ∃ S, S = (A k).same (B k) := ⟨_, rfl⟩
          have KS0 := fun (W : World) (h1 : (A k).lies W) (h2 : (B k).lies W) => refSame_any (A k).lf (B k).lf (A k).q (B k).q (A k).m (B k).m (A k).cap (B k).cap (A k).f (B k).f (A k).nx (B k).nx (A k).k (B k).k (A k).c (B k).c h1.cap h1.max h2.cap h2.max W h1.row h2.row
          rw [show nSame (A k).lf (B k).lf (A k).m (B k).m (A k).f (B k).f (A k).nx (B k).nx (A k).k (B k).k (A k).c (B k).c = S from hS.symm] at KS0
          have KS := hid KS0
          have hSh := hid hS
          clear KS0 hS
          obtain ⟨C9, B9, N9⟩ := M6.out.drew.c9
          have hc9 : ∀ W, Below wq.drew.heap.size wq.drew W → W.cell? ⟨a9, k, none⟩ = some (.bool true) := fun W h => by have := N9.cell (B9.more h) hkn; rwa [hIh.out] at this
          obtain ⟨C10, B10, N10⟩ := M6.out.drew.c10
          have hc10 : ∀ W, Below wq.drew.heap.size wq.drew W → W.cell? ⟨a10, k, none⟩ = some (.bool true) := fun W h => by have := N10.cell (B10.more h) hkn; rwa [hJh.out] at this
          obtain ⟨C7, B7, N7⟩ := M6.out.drew.c7
          obtain ⟨C8, B8, N8⟩ := M6.out.drew.c8
          have hc7 : ∀ W, Below wq.drew.heap.size wq.drew W → W.rangeAt a7 (k * 11) (A k).cells := fun W h => N7.range (B7.more h) hkn
          have hc8 : ∀ W, Below wq.drew.heap.size wq.drew W → W.rangeAt a8 (k * 11) (B k).cells := fun W h => N8.range (B8.more h) hkn
          have hlA := fun W' (h : Below wq.drew.heap.size wq.drew W') => (hRR.out.la k).more (below2 M6.out.drew.S h M6.out.drew.S.size)
          have hlB := fun W' (h : Below wq.drew.heap.size wq.drew W') => (hRR.out.lb k).more (below2 M6.out.drew.S h M6.out.drew.S.size)
          clear B7 B8 N7 N8
          clear B9 N9 B10 N10
          generalize hV : tabS2 k a7 a8 a9 a10 A B S = V
          refine wp_region_inv 18 (fun D vs wx => IB wq.drew V D vs wx) (by kernel_rfl) (by kernel_rfl) ?h0 ?hstep ?hend
          case h0 => exact ⟨Vals.nil, Below.refl _ _⟩
          case hstep =>
            intro n o hj ho D vs ax wx hDj hD hv hbase H
            rcases (show n = 0 ∨ n = 1 ∨ n = 2 ∨ n = 3 ∨ n = 4 ∨ n = 5 ∨ n = 6 ∨ n = 7 ∨ n = 8 ∨ n = 9 ∨ n = 10 ∨ n = 11 ∨ n = 12 ∨ n = 13 ∨ n = 14 ∨ n = 15 ∨ n = 16 ∨ n = 17 by omega) with rfl | rfl | rfl | rfl | rfl | rfl | rfl | rfl | rfl | rfl | rfl | rfl | rfl | rfl | rfl | rfl | rfl | rfl
            all_goals
              simp only [List.getElem?_cons_zero, List.getElem?_cons_succ, Option.some.injEq] at ho
              subst ho
            · have f19 := at_base hbase 19 (by kernel_rfl) (v := .int .i64 (k : Int)) rfl
              exact StepOf.value (.int .i64 (k : Int)) (wanted_plain rfl _) (by simp [execOp, Act.eval, f19, go_sem]) (H.quiet 0 _ (by rw [← hV]; rfl))
            · have f9 := at_base hbase 9 (by kernel_rfl) (v := .pointer (some ⟨a9, 0, none⟩)) rfl
              have e0 := at_done H.vals hv (hD 0 (by kernel_rfl)) 142 (by kernel_rfl) (v := .int .i64 (k : Int)) (by rw [← hV]; rfl)
              exact StepOf.value (.pointer (some ⟨a9, k, none⟩)) (wanted_plain rfl _) (by simp [execOp, Act.eval, f9, e0, hkk, hkn, go_sem]) (H.quiet 1 _ (by rw [← hV]; rfl))
            · have e1 := at_done H.vals hv (hD 1 (by kernel_rfl)) 143 (by kernel_rfl) (v := .pointer (some ⟨a9, k, none⟩)) (by rw [← hV]; rfl)
              have hc := hc9 _ H.low
              exact StepOf.value (.bool true) (wanted_plain rfl _) (by simp [execOp, Act.eval, e1, hc, go_sem]) (H.quiet 2 _ (by rw [← hV]; rfl))
            · have e2 := at_done H.vals hv (hD 2 (by kernel_rfl)) 144 (by kernel_rfl) (v := .bool true) (by rw [← hV]; rfl)
              exact StepOf.value (.bool true) (wanted_plain rfl _) (by simp [execOp, Act.eval, e2, go_sem]) (H.quiet 3 _ (by rw [← hV]; rfl))
            · have e3 := at_done H.vals hv (hD 3 (by kernel_rfl)) 145 (by kernel_rfl) (v := .bool true) (by rw [← hV]; rfl)
              have f19 := at_base hbase 19 (by kernel_rfl) (v := .int .i64 (k : Int)) rfl
              exact StepOf.value (.int .i64 (k : Int)) (wanted_on9 rfl (t := 145) rfl e3) (by simp [execOp, Act.eval, f19, go_sem]) (H.quiet 4 _ (by rw [← hV]; rfl))
            · have e3 := at_done H.vals hv (hD 3 (by kernel_rfl)) 145 (by kernel_rfl) (v := .bool true) (by rw [← hV]; rfl)
              have f10 := at_base hbase 10 (by kernel_rfl) (v := .pointer (some ⟨a10, 0, none⟩)) rfl
              have e4 := at_done H.vals hv (hD 4 (by kernel_rfl)) 146 (by kernel_rfl) (v := .int .i64 (k : Int)) (by rw [← hV]; rfl)
              exact StepOf.value (.pointer (some ⟨a10, k, none⟩)) (wanted_on9 rfl (t := 145) rfl e3) (by simp [execOp, Act.eval, f10, e4, hkk, hkn, go_sem]) (H.quiet 5 _ (by rw [← hV]; rfl))
            · have e3 := at_done H.vals hv (hD 3 (by kernel_rfl)) 145 (by kernel_rfl) (v := .bool true) (by rw [← hV]; rfl)
              have e5 := at_done H.vals hv (hD 5 (by kernel_rfl)) 147 (by kernel_rfl) (v := .pointer (some ⟨a10, k, none⟩)) (by rw [← hV]; rfl)
              have hc := hc10 _ H.low
              exact StepOf.value (.bool true) (wanted_on9 rfl (t := 145) rfl e3) (by simp [execOp, Act.eval, e5, hc, go_sem]) (H.quiet 6 _ (by rw [← hV]; rfl))
            · have e3 := at_done H.vals hv (hD 3 (by kernel_rfl)) 145 (by kernel_rfl) (v := .bool true) (by rw [← hV]; rfl)
              have e6 := at_done H.vals hv (hD 6 (by kernel_rfl)) 148 (by kernel_rfl) (v := .bool true) (by rw [← hV]; rfl)
              exact StepOf.value (.bool false) (wanted_on9 rfl (t := 145) rfl e3) (by simp [execOp, Act.eval, e6, go_sem]) (H.quiet 7 _ (by rw [← hV]; rfl))
            · have e3 := at_done H.vals hv (hD 3 (by kernel_rfl)) 145 (by kernel_rfl) (v := .bool true) (by rw [← hV]; rfl)
              have e7 := at_done H.vals hv (hD 7 (by kernel_rfl)) 149 (by kernel_rfl) (v := .bool false) (by rw [← hV]; rfl)
              exact StepOf.value (.bool false) (wanted_on9 rfl (t := 145) rfl e3) (by simp [execOp, Act.eval, e7, go_sem]) (H.quiet 8 _ (by rw [← hV]; rfl))
            · have e8 := at_done H.vals hv (hD 8 (by kernel_rfl)) 150 (by kernel_rfl) (v := .bool false) (by rw [← hV]; rfl)
              have f19 := at_base hbase 19 (by kernel_rfl) (v := .int .i64 (k : Int)) rfl
              exact StepOf.value (.int .i64 (k : Int)) (wanted_on9 rfl (t := 150) rfl e8) (by simp [execOp, Act.eval, f19, go_sem]) (H.quiet 9 _ (by rw [← hV]; rfl))
            · have e8 := at_done H.vals hv (hD 8 (by kernel_rfl)) 150 (by kernel_rfl) (v := .bool false) (by rw [← hV]; rfl)
              have f7 := at_base hbase 7 (by kernel_rfl) (v := .pointer (some ⟨a7, 0, none⟩)) rfl
              have e9 := at_done H.vals hv (hD 9 (by kernel_rfl)) 151 (by kernel_rfl) (v := .int .i64 (k : Int)) (by rw [← hV]; rfl)
              exact StepOf.value (.pointer (some ⟨a7, k * 11, none⟩)) (wanted_on9 rfl (t := 150) rfl e8) (by simp [execOp, Act.eval, f7, e9, hkk, hkn, go_sem]) (H.quiet 10 _ (by rw [← hV]; rfl))
            · have e8 := at_done H.vals hv (hD 8 (by kernel_rfl)) 150 (by kernel_rfl) (v := .bool false) (by rw [← hV]; rfl)
              have e10 := at_done H.vals hv (hD 10 (by kernel_rfl)) 152 (by kernel_rfl) (v := .pointer (some ⟨a7, k * 11, none⟩)) (by rw [← hV]; rfl)
              exact StepOf.value ((A k).val) (wanted_on9 rfl (t := 150) rfl e8) (grun_load_at _ _ _ 29 _ rfl a7 (k * 11) (eval_get e10) (A k).cells.toArray _ (hc7 _ H.low) Try.underlying29 rfl (by rw [tabE22]; rfl)) (H.quiet 11 _ (by rw [← hV]; rfl))
            · have e8 := at_done H.vals hv (hD 8 (by kernel_rfl)) 150 (by kernel_rfl) (v := .bool false) (by rw [← hV]; rfl)
              have f19 := at_base hbase 19 (by kernel_rfl) (v := .int .i64 (k : Int)) rfl
              exact StepOf.value (.int .i64 (k : Int)) (wanted_on9 rfl (t := 150) rfl e8) (by simp [execOp, Act.eval, f19, go_sem]) (H.quiet 12 _ (by rw [← hV]; rfl))
            · have e8 := at_done H.vals hv (hD 8 (by kernel_rfl)) 150 (by kernel_rfl) (v := .bool false) (by rw [← hV]; rfl)
              have f8 := at_base hbase 8 (by kernel_rfl) (v := .pointer (some ⟨a8, 0, none⟩)) rfl
              have e12 := at_done H.vals hv (hD 12 (by kernel_rfl)) 154 (by kernel_rfl) (v := .int .i64 (k : Int)) (by rw [← hV]; rfl)
              exact StepOf.value (.pointer (some ⟨a8, k * 11, none⟩)) (wanted_on9 rfl (t := 150) rfl e8) (by simp [execOp, Act.eval, f8, e12, hkk, hkn, go_sem]) (H.quiet 13 _ (by rw [← hV]; rfl))
            · have e8 := at_done H.vals hv (hD 8 (by kernel_rfl)) 150 (by kernel_rfl) (v := .bool false) (by rw [← hV]; rfl)
              have e13 := at_done H.vals hv (hD 13 (by kernel_rfl)) 155 (by kernel_rfl) (v := .pointer (some ⟨a8, k * 11, none⟩)) (by rw [← hV]; rfl)
              exact StepOf.value ((B k).val) (wanted_on9 rfl (t := 150) rfl e8) (grun_load_at _ _ _ 29 _ rfl a8 (k * 11) (eval_get e13) (B k).cells.toArray _ (hc8 _ H.low) Try.underlying29 rfl (by rw [tabE22]; rfl)) (H.quiet 14 _ (by rw [← hV]; rfl))
            · have e8 := at_done H.vals hv (hD 8 (by kernel_rfl)) 150 (by kernel_rfl) (v := .bool false) (by rw [← hV]; rfl)
              have e11 := at_done H.vals hv (hD 11 (by kernel_rfl)) 153 (by kernel_rfl) (v := (A k).val) (by rw [← hV]; rfl)
              have e14 := at_done H.vals hv (hD 14 (by kernel_rfl)) 156 (by kernel_rfl) (v := (B k).val) (by rw [← hV]; rfl)
              refine StepOf.call 11 #[(A k).val, (B k).val] (wanted_on9 rfl (t := 150) rfl e8) (by simp [execOp, Act.eval, e11, e14, go_sem]) ((KS.out wx (hlA _ H.low) (hlB _ H.low)).mono ?_)
              rintro e w2 ⟨rfl, hb2⟩
              exact ⟨_, rfl, H.called 15 (.bool S) (by rw [← hV]; rfl) hb2⟩
            · have e8 := at_done H.vals hv (hD 8 (by kernel_rfl)) 150 (by kernel_rfl) (v := .bool false) (by rw [← hV]; rfl)
              have e15 := at_done H.vals hv (hD 15 (by kernel_rfl)) 157 (by kernel_rfl) (v := .bool S) (by rw [← hV]; rfl)
              exact StepOf.value (.bool (!S)) (wanted_on9 rfl (t := 150) rfl e8) (by simp [execOp, Act.eval, e15, go_sem]) (H.quiet 16 _ (by rw [← hV]; rfl))
            · have e3 := at_done H.vals hv (hD 3 (by kernel_rfl)) 145 (by kernel_rfl) (v := .bool true) (by rw [← hV]; rfl)
              have e8 := at_done H.vals hv (hD 8 (by kernel_rfl)) 150 (by kernel_rfl) (v := .bool false) (by rw [← hV]; rfl)
              have e16 := at_done H.vals hv (hD 16 (by kernel_rfl)) 158 (by kernel_rfl) (v := .bool (!S)) (by rw [← hV]; rfl)
              exact StepOf.value (.bool (!S)) (wanted_on9 rfl (t := 145) rfl e3) (by simp [execOp, Act.eval, e8, e16, go_sem]) (H.quiet 17 _ (by rw [← hV]; rfl))
          case hend =>
            intro D vs W7x hall H
            have hlow := hid H.low
            have v0 := H.vals 0 _ (hall 0 (by omega)) (by rw [← hV]; rfl)
            have v1 := H.vals 1 _ (hall 1 (by omega)) (by rw [← hV]; rfl)
            have v2 := H.vals 2 _ (hall 2 (by omega)) (by rw [← hV]; rfl)
            have v3 := H.vals 3 _ (hall 3 (by omega)) (by rw [← hV]; rfl)
            have v4 := H.vals 4 _ (hall 4 (by omega)) (by rw [← hV]; rfl)
            have v5 := H.vals 5 _ (hall 5 (by omega)) (by rw [← hV]; rfl)
            have v6 := H.vals 6 _ (hall 6 (by omega)) (by rw [← hV]; rfl)
            have v7 := H.vals 7 _ (hall 7 (by omega)) (by rw [← hV]; rfl)
            have v8 := H.vals 8 _ (hall 8 (by omega)) (by rw [← hV]; rfl)
            have v9 := H.vals 9 _ (hall 9 (by omega)) (by rw [← hV]; rfl)
            have v10 := H.vals 10 _ (hall 10 (by omega)) (by rw [← hV]; rfl)
            have v11 := H.vals 11 _ (hall 11 (by omega)) (by rw [← hV]; rfl)
            have v12 := H.vals 12 _ (hall 12 (by omega)) (by rw [← hV]; rfl)
            have v13 := H.vals 13 _ (hall 13 (by omega)) (by rw [← hV]; rfl)
            have v14 := H.vals 14 _ (hall 14 (by omega)) (by rw [← hV]; rfl)
            have v15 := H.vals 15 _ (hall 15 (by omega)) (by rw [← hV]; rfl)
            have v16 := H.vals 16 _ (hall 16 (by omega)) (by rw [← hV]; rfl)
            have v17 := H.vals 17 _ (hall 17 (by omega)) (by rw [← hV]; rfl)
            simp only [puts, List.range, List.range.loop, List.foldl_cons, List.foldl_nil, List.getElem?_toArray, List.getElem?_cons_succ, List.getElem?_cons_zero, Option.bind_some, Option.bind_none, Act.put, List.setIfInBounds_toArray, List.set_cons_succ, List.set_cons_zero, v0, v1, v2, v3, v4, v5, v6, v7, v8, v9, v10, v11, v12, v13, v14, v15, v16, v17]
            simp only [List.drop_succ_cons, List.drop_zero]
            clear v0 v1 v2 v3 v4 v5 v6 v7 v8 v9 v10 v11 v12 v13 v14 v15 v16 v17 hall H hV hc9 hc10 hc7 hc8 hlA hlB
            have D8 := hid (below2 D6.out.drew hlow.out D6.out.drew.size)
            have M8 := hid (M6.out.drew.more hlow.out)
            have P16 := hid ((O16h.out.more (Below.refl _ _).drew).more hlow.out)
            have P18 := hid ((O18h.out.more (Below.refl _ _).drew).more hlow.out)
            clear M6 D6 O16h O18h hlow
            cases S with
            | true =>
              obtain ⟨C9, B9, N9⟩ := M8.out.c9
              have hCi := N9.cell B9 hkn
              rw [hIh.out] at hCi
              clear B9 N9
              go_wp2_with fail
              exact ⟨⟨k + 1, v, by omega, by omega, rfl, rfl, by rw [hids.out, show idsB1 I k = [(k : Int)] by unfold idsB1; rw [hIh.out, decide_eq_true hk1]; rfl]; exact P16.out, hFn.out, by rw [hsucc.out, show chg1 A B I J k = [] by unfold chg1; rw [hIh.out, hJh.out, ← hSh.out]; rfl, List.append_nil]; exact P18.out, D8.out⟩, hmeas.out _ rfl⟩
            | false =>
              obtain ⟨v9, w9, hr0, O9, S9, b9⟩ := row_grow2 enOk P18.out D8.out.size ⟨1, (k : Int)⟩ #[.int .i64 1, .int .i64 (k : Int)] rfl (by show (_ + 1) * 16 ≤ _; have := hlen.out; omega) (by unfold maxLen; have := hlen.out; omega)
              have hr := hid hr0
              have O18k := hid O9
              have D9 := hid (D8.out.trans b9)
              have O16k := hid (RowOwn.sole (P16.out.more (below_one W7x (.cells #[.int .i64 1, .int .i64 (k : Int)] 42))) S9 (fun bb h h2 => own_apart P18.out P16.out (by decide) bb h2 h))
              have M9 := hid (hM.out.more D9.out)
              clear hr0 O9 S9 b9 P16 P18 D8 M8
              obtain ⟨C9, B9, N9⟩ := M9.out.c9
              have hCi := N9.cell B9 hkn
              rw [hIh.out] at hCi
              clear B9 N9
              go_wp2_with (at_builtin; refine Lib.wpList_append_run _ rfl _ _ _ _ rfl _ _ rfl rfl _ _ (hr.out _) ?_)
              exact ⟨⟨k + 1, v, by omega, by omega, rfl, rfl, by rw [hids.out, show idsB1 I k = [(k : Int)] by unfold idsB1; rw [hIh.out, decide_eq_true hk1]; rfl]; exact O16k.out, hFn.out, by rw [hsucc.out, show chg1 A B I J k = [⟨1, (k : Int)⟩] by unfold chg1; rw [hIh.out, hJh.out, ← hSh.out]; rfl]; exact O18k.out, D9.out⟩, hmeas.out _ rfl⟩
    · obtain rfl : k = 256 := by omega
      have M6 := hid (hM.out.more hb)
      have O16h := hid O16
      have O18h := hid O18
      have hFh := hid hF
      clear hb O16 O18 hF
      go_wp2_with fail
      refine aK1.out _ _ ?_
      exact groveEnd w0 _ a7 a8 a9 a10 A B X Y I J H K gg b n D oo bo no Do hn.out M6.out hRR.out look hlook.out _ _ v W.heap.size O16h.out hFh.out O18h.out hR.out
end Go.Proofs.Ytghboanmiggcnaa

/-
  GroveRuns answers true: its calls, one by one. The walk.
-/

namespace Go.Proofs.Ytghboanmiggcnaa
open Go.RowKit Go.Maps Go.Shelf
set_option linter.unusedVariables false
set_option linter.unusedSimpArgs false

theorem grove_empty {Ar : Nat → Prop} {w : World} {g b : Nat} (G : GroveM w g b 0 (.map [])) (np : ¬ Ar g) (nb : ¬ Ar b) : GroveN Ar w g b 0 (.map []) (fun _ => NdX.zero) (fun _ => false) :=
  ⟨G, isMap_empty, fun z hw => by rw [Bool.and_false]; rfl, fun i _ _ h => absurd h (by simp), fun i _ _ h => absurd h (by simp), fun i _ _ h => absurd h (by simp), np, nb⟩
/-- The state as the law's loop goes. -/
def RunAt22 (w0 wr : World) (a7 a8 a9 a10 i g go : Nat) : Prop := ∃ (A B X Y : Nat → NdX) (I J H K : Nat → Bool) (b n : Nat) (D : DataW Value) (bo no : Nat) (Do : DataW Value), n ≤ i ∧ RunM w0 wr a7 a8 a9 a10 A B X Y I J H K g b n D go bo no Do ∧ RunR w0 A B X Y I J H K

theorem run_start {w W3 : World} {g b g2 b2 : Nat} (D3 : Below w.heap.size w W3) (hb : w.heap.size ≤ b) (G : GroveM W3 g b 0 (.map [])) (G2 : GroveM W3 g2 b2 0 (.map [])) (h1 : b ≠ b2) (h2 : b ≠ g2) {Zn Zb : Array Value} (hn : NdsC Zn (fun _ => NdX.zero)) (hz : BlsC Zb (fun _ => false)) (t1 t2 : TypeId) :
    RunAt22 w ((((W3.alloc (.cells Zn t1)).alloc (.cells Zn t1)).alloc (.cells Zb t2)).alloc (.cells Zb t2)) W3.heap.size (W3.heap.size + 1) (W3.heap.size + 1 + 1) (W3.heap.size + 1 + 1 + 1) 0 g g2 := by
  have l1 := G.blk.lt
  have l2 := G.own.lt
  have l3 := G2.blk.lt
  have l4 := G2.own.lt
  have b1 := below_one W3 (.cells Zn t1)
  have b2' := below_one (W3.alloc (.cells Zn t1)) (.cells Zn t1)
  have b3 := below_one ((W3.alloc (.cells Zn t1)).alloc (.cells Zn t1)) (.cells Zb t2)
  have b4 := below_one (((W3.alloc (.cells Zn t1)).alloc (.cells Zn t1)).alloc (.cells Zb t2)) (.cells Zb t2)
  have B1 := ((Blk.new W3 Zn t1).more b2').more b3 |>.more b4
  have B2 := ((Blk.new (W3.alloc (.cells Zn t1)) Zn t1).more b3).more b4
  have B3 := (Blk.new ((W3.alloc (.cells Zn t1)).alloc (.cells Zn t1)) Zb t2).more b4
  have B4 := Blk.new (((W3.alloc (.cells Zn t1)).alloc (.cells Zn t1)).alloc (.cells Zb t2)) Zb t2
  rw [show (W3.alloc (.cells Zn t1)).heap.size = W3.heap.size + 1 by simp] at B2
  rw [show ((W3.alloc (.cells Zn t1)).alloc (.cells Zn t1)).heap.size = W3.heap.size + 1 + 1 by simp] at B3
  rw [show (((W3.alloc (.cells Zn t1)).alloc (.cells Zn t1)).alloc (.cells Zb t2)).heap.size = W3.heap.size + 1 + 1 + 1 by simp] at B4
  have ball := below2 (below2 (below2 b1 b2' b1.size) b3 (below2 b1 b2' b1.size).size) b4 (below2 (below2 b1 b2' b1.size) b3 (below2 b1 b2' b1.size).size).size
  have nar : ∀ k, k < W3.heap.size → ¬ ArS W3.heap.size (W3.heap.size + 1) (W3.heap.size + 1 + 1) (W3.heap.size + 1 + 1 + 1) k := fun k hk h => by rcases h with h | h | h | h <;> omega
  refine ⟨fun _ => NdX.zero, fun _ => NdX.zero, fun _ => NdX.zero, fun _ => NdX.zero, fun _ => false, fun _ => false, fun _ => false, fun _ => false, b, 0, .map [], b2, 0, .map [], Nat.le_refl _,
    ⟨grove_empty (G.more ball) (nar _ l1) (nar _ l2), grove_empty (G2.more ball) (nar _ l3) (nar _ l4), ⟨h1, h2⟩, ⟨_, B1, hn⟩, ⟨_, B2, hn⟩, ⟨_, B3, hz⟩, ⟨_, B4, hz⟩, hb, below2 D3 ball D3.size⟩,
    ⟨fun _ _ _ => rfl, fun _ _ _ => rfl, fun _ _ _ h => absurd h (by simp), fun _ _ _ h => absurd h (by simp), fun _ => NdX.zero_lies w, fun _ => NdX.zero_lies w⟩⟩

set_option maxRecDepth 100000 in
set_option maxHeartbeats 8000000 in
theorem groveRuns (lp : Option Addr) (nl lc : Nat) (Os : Nat → OpG) (h1 : nl ≤ lc) (h2 : lc ≤ maxLen) (look : Int) (hlook : (Lit.int .i64 look).wf = true) (w : World) (HR : RowP w lp 13 nl (fun j => (Os j).cells)) (HO : ∀ j, j < nl → (Os j).ok w) :
    Calls Try.prog 3 #[.slice lp nl lc, .int .i64 look] w fun e w' => e = .returned (.bool true) ∧ Below w.heap.size w w' := by
  have KA := hid (fun w => alive22 w)
  have KN := hid (fun w => gnew_m w)
  have hHR := hid HR
  have hHO := hid HO
  have hlc := hid (And.intro h1 h2)
  have hlk := hid hlook
  have NZ := hid (show NdsC Try.zeroCells30 (fun _ => NdX.zero) by rw [zeroN22]; exact zeros22_nds)
  have BZ := hid (show BlsC Try.zeroCells31 (fun _ => false) by rw [zeroB22]; exact falses22_bls)
  clear HR HO h1 h2 hlook
  go_enter Try.func3, Try.ntmps3
  go_wp2_with fail
  refine (KA.out _).mono ?_
  rintro e w1 ⟨rfl, hb1⟩
  have D1 := hid hb1
  clear hb1 KA
  go_wp2_with fail
  refine (KN.out _).mono ?_
  rintro e w2 ⟨g, b, rfl, hg, hb, G2, hb2⟩
  have D2 := hid (below2 D1.out hb2 D1.out.size)
  have hbl := hid (show w.heap.size ≤ b from Nat.le_trans D1.out.size hb)
  have G2h := hid G2
  clear hb2 KN D1 hg hb G2
  go_wp2_with fail
  refine (gclone_any g b 0 _ w2 G2h.out).mono ?_
  rintro e w3 ⟨g2, b2, rfl, hg2, hb2, G3, hb3⟩
  have D3 := hid (below2 D2.out hb3 D2.out.size)
  have hne := hid (show b ≠ b2 ∧ b ≠ g2 from ⟨fun e => by have := G2h.out.own.lt; omega, fun e => by have := G2h.out.own.lt; omega⟩)
  have RS := hid (run_start D3.out hbl.out (G2h.out.more hb3) G3 hne.out.1 hne.out.2 NZ.out BZ.out 30 31)
  have hd := hid (show ArD w w3.heap.size (w3.heap.size + 1) (w3.heap.size + 1 + 1) (w3.heap.size + 1 + 1 + 1) from ⟨D3.out.size, by omega, by omega, by omega⟩)
  clear hb3 hg2 hb2 G3 G2h D2 hbl hne NZ BZ
  go_upto_region 7 with (fail)
  generalize World.alloc (World.alloc (World.alloc (World.alloc w3 _) _) _) _ = W5 at *
  clear D3
  generalize w3.heap.size + 1 + 1 + 1 = a10 at *
  generalize w3.heap.size + 1 + 1 = a9 at *
  generalize w3.heap.size + 1 = a8 at *
  generalize w3.heap.size = a7 at *
  go_wp2_with fail
  rename_i K1 aK1
  replace aK1 := hid aK1
  go_loopw [5, 6, 11] (fun sg so si wr => ∃ i gg oo : Nat, i ≤ 40 ∧ i ≤ nl ∧ sg = .pointer (some ⟨gg, 0, none⟩) ∧ so = .pointer (some ⟨oo, 0, none⟩) ∧ si = .int .i64 (i : Int) ∧ RunAt22 w wr a7 a8 a9 a10 i gg oo) (fun _ _ si _ => 40 - (intOf si).toNat)
  case atStart => exact ⟨0, g, g2, by omega, by omega, rfl, rfl, rfl, RS.out⟩
  case round =>
    obtain ⟨i, gg, oo, hi40, hil, rfl, rfl, rfl, hst⟩ := hrel
    clear RS
    by_cases hlt : i < nl
    · have hlti : (i : Int) < (nl : Int) := by omega
      by_cases hl4 : i < 40
      · have hl4i : (i : Int) < 40 := by omega
        obtain ⟨A, B, X, Y, I, J, H, K, b9, n9, D9, bo, no, Do, hn9, M, R⟩ := hst
        obtain ⟨bl, ol, hpl, rl⟩ := RowP.row hHR.out (by omega)
        have hOk := hid (hHO.out i hlt)
        have hrl := rl.more M.S
        have hrg := hid (show wr.rangeAt bl (ol + i * 13) (Os i).cells.toArray.toList from fun j v hv => hrl.cell i hlt j v hv)
        have hmeas := hid (meas_up9 40 i hl4)
        have hw1 : wrap64 ((i : Int) + 1) = ((i + 1 : Nat) : Int) := by
          rw [IntWalk.wrap64_in _ ⟨by omega, by omega⟩]
          rfl
        have hMh := hid M
        have hRh := hid R
        have hil9 := hid (And.intro hlt hn9)
        subst hpl
        clear M R rl hrl hi40 hil hn9
        generalize Os i = o at hOk hrg
        obtain ⟨ok, oi, x⟩ := o
        dsimp only [OpG.cells] at hrg
        go_upto_region 11 with (refine grwpList_loadAt rfl 33 _ rfl bl (ol + i * 13) rfl (OpG.cells ⟨ok, oi, x⟩).toArray _ hrg.out Try.underlying33 rfl (by rw [tabO22]; rfl) ?_)
        generalize hW12 : World.alloc wr _ = W12
        have B12 := hid (hW12 ▸ Blk.new wr _ _ : Blk W12 wr.heap.size (OpG.cells ⟨ok, oi, x⟩).toArray)
        have hb12 := hid (hW12 ▸ below_one wr _ : Below wr.heap.size wr W12)
        have hM12 := hid (hMh.out.more hb12.out)
        have hpb := hid hMh.out.G.m.own.lt
        have hap7 := hid (hMh.out.arr a7 (.inl rfl))
        clear hW12 hMh hrg
        generalize wr.heap.size = p12 at *
        obtain ⟨l12, m12, f12⟩ := B12.out
        go_cut [13] (fun s wx => s = .bool (decide (1 ≤ oi ∧ oi < 256)) ∧ wx = W12)
        case first =>
          rcases (show 1 ≤ oi ∧ oi < 256 ∨ (1 ≤ oi ∧ ¬ oi < 256) ∨ ¬ 1 ≤ oi by omega) with ⟨q1, q2⟩ | ⟨q1, q2⟩ | q1
          · have g1 : (1 : Int) ≤ oi := by omega
            have g2 : oi ≤ 255 := by omega
            go_wp2_with fail
            go_meet
            case rel => exact ⟨by rw [decide_eq_true (show 1 ≤ oi ∧ oi < 256 by omega)], rfl⟩
          · have g1 : (1 : Int) ≤ oi := by omega
            have g2 : decide (oi ≤ 255) = false := decide_eq_false (by omega)
            go_wp2_with fail
            go_meet
            case rel => exact ⟨by rw [decide_eq_false (show ¬ (1 ≤ oi ∧ oi < 256) by omega)], rfl⟩
          · have g1 : decide ((1 : Int) ≤ oi) = false := decide_eq_false (by omega)
            go_wp2_with fail
            go_meet
            case rel => exact ⟨by rw [decide_eq_false (show ¬ (1 ≤ oi ∧ oi < 256) by omega)], rfl⟩
        case rest =>
          obtain ⟨rfl, rfl⟩ := hcut
          clear l12 m12 f12
          obtain ⟨l12, m12, f12⟩ := B12.out
          obtain ⟨r, hr, e1, e2, e3, e4⟩ := kind_way ok
          have hx := hid (hOk.out.x.more hM12.out.S)
          have hxf := hid (show ∀ j, j < x.m → (x.f j).ok from hOk.out.f)
          have hoi := hid (show (Lit.int .i64 oi).wf = true from hOk.out.i)
          have hx0 := hid (show x.lies w from hOk.out.x)
          clear hOk
          rcases hr with rfl | rfl | rfl
          · by_cases hw : x.good = true ∧ (1 ≤ oi ∧ oi < 256)
            · -- it is put
              rw [show (decide (1 ≤ oi ∧ oi < 256)) = true from decide_eq_true hw.2]
              obtain ⟨k, rfl⟩ : ∃ k : Nat, oi = (k : Int) := ⟨oi.toNat, by omega⟩
              have hwh := hid hw
              have hk1 := hid (show 1 ≤ k ∧ k < 256 by omega)
              have KP := hid (gputN hM12.out.G (by have := hil9.out.2; omega) hM12.out.arr (k : Int) hw.2.1 hw.2.2 x hx.out hxf.out hw.1)
              have KR := fun (W : World) (hW : x.lies W) => refNode_any x.lf x.q x.m x.cap x.f hxf.out x.nx x.k x.c hW.cap hW.max W hW.row
              rw [show nodeB x.lf x.m x.f x.nx x.k x.c = true from hw.1] at KR
              replace KR := hid KR
              clear hw
              go_wp2_with fail
              refine KP.out.mono ?_
              rintro e w6 ⟨rfl, q', c', D', G6, S6⟩
              have hp12 := hid (show p12 ≠ b9 by have := hpb.out; omega)
              have M6 := hid (hM12.out.turned S6 G6)
              have B6 := hid (B12.out.sole S6 hp12.out)
              have x6 := hid (show x.lies w6 from hx0.out.more M6.out.S)
              clear S6 G6 KP hM12 B12 l12 m12 f12 hx
              obtain ⟨l12, m12, f12⟩ := B6.out
              go_wp2_with fail
              refine (KR.out _ x6.out).mono ?_
              rintro e w7 ⟨rfl, hb7⟩
              have M7 := hid (M6.out.more hb7).drew
              have B7 := hid (show Blk w7.drew p12 _ from (B6.out.more hb7).drew)
              have hb7s := hid hb7.size
              clear hb7 M6 B6 KR x6 l12 m12 f12
              obtain ⟨l12, m12, f12⟩ := B7.out
              go_upto_region 21 with (fail)
              clear l12 m12 f12
              have hkk : (k : Int) < 256 := by have := hk1.out; omega
              have hkn : k < 256 := hk1.out.2
              obtain ⟨Ca, Ba, Na⟩ := M7.out.c7
              have hap : p12 ≠ a7 := by have := hap7.out; omega
              have Ba2 := hid (show Blk w7.drew a7 Ca from Ba)
              have Nah := hid Na
              have Bm : Blk (w7.drew.setCells a7 (k * 11) x.cells) p12 (OpG.cells ⟨ok, (k : Int), x⟩).toArray := B7.out.beside (fun e => hap e.symm) _ _
              have Mm := hid (M7.out.own hd.out k hkn x)
              generalize hV : tabPut p12 a7 a9 k x = V
              refine wp_region_inv 9 (fun D vs wx => IW 7 w7.drew (w7.drew.setCells a7 (k * 11) x.cells) V D vs wx) (by kernel_rfl) (by kernel_rfl) ?h0 ?hstep ?hend
              case h0 => exact ⟨Vals.nil, rfl⟩
              case hstep =>
                intro n o hj ho D vs ax wx hDj hD hv hbase H
                rcases (show n = 0 ∨ n = 1 ∨ n = 2 ∨ n = 3 ∨ n = 4 ∨ n = 5 ∨ n = 6 ∨ n = 7 ∨ n = 8 by omega) with rfl | rfl | rfl | rfl | rfl | rfl | rfl | rfl | rfl
                all_goals
                  simp only [List.getElem?_cons_zero, List.getElem?_cons_succ, Option.some.injEq] at ho
                  subst ho
                · have e12 := at_base hbase 12 (by kernel_rfl) (v := .pointer (some ⟨p12, 0, none⟩)) rfl
                  exact StepOf.value (.pointer (some ⟨p12, 1, none⟩)) (wanted_plain rfl _) (by simp [execOp, Act.eval, e12, go_sem]) (H.quiet 0 _ (by decide) (by rw [← hV]; rfl))
                · have e0 := at_done H.vals hv (hD 0 (by kernel_rfl)) 102 (by kernel_rfl) (v := .pointer (some ⟨p12, 1, none⟩)) (by rw [← hV]; rfl)
                  have hc := H.at (R := fun W => W.cell? ⟨p12, 1, none⟩ = some (.int .i64 (k : Int))) (B7.out.cell 1) (Bm.cell 1)
                  exact StepOf.value (.int .i64 (k : Int)) (wanted_plain rfl _) (by simp [execOp, Act.eval, e0, go_sem, hc]) (H.quiet 1 _ (by decide) (by rw [← hV]; rfl))
                · have e12 := at_base hbase 12 (by kernel_rfl) (v := .pointer (some ⟨p12, 0, none⟩)) rfl
                  exact StepOf.value (.pointer (some ⟨p12, 1, none⟩)) (wanted_plain rfl _) (by simp [execOp, Act.eval, e12, go_sem]) (H.quiet 2 _ (by decide) (by rw [← hV]; rfl))
                · have e0 := at_done H.vals hv (hD 2 (by kernel_rfl)) 104 (by kernel_rfl) (v := .pointer (some ⟨p12, 1, none⟩)) (by rw [← hV]; rfl)
                  have hc := H.at (R := fun W => W.cell? ⟨p12, 1, none⟩ = some (.int .i64 (k : Int))) (B7.out.cell 1) (Bm.cell 1)
                  exact StepOf.value (.int .i64 (k : Int)) (wanted_plain rfl _) (by simp [execOp, Act.eval, e0, go_sem, hc]) (H.quiet 3 _ (by decide) (by rw [← hV]; rfl))
                · have e12 := at_base hbase 12 (by kernel_rfl) (v := .pointer (some ⟨p12, 0, none⟩)) rfl
                  exact StepOf.value (.pointer (some ⟨p12, 2, none⟩)) (wanted_plain rfl _) (by simp [execOp, Act.eval, e12, go_sem]) (H.quiet 4 _ (by decide) (by rw [← hV]; rfl))
                · have e4 := at_done H.vals hv (hD 4 (by kernel_rfl)) 106 (by kernel_rfl) (v := .pointer (some ⟨p12, 2, none⟩)) (by rw [← hV]; rfl)
                  have hc := H.at (R := fun W => W.rangeAt p12 2 x.cells.toArray.toList) (fun j v hv2 => (B7.out.cell (2 + j)).trans (opg_tail ⟨ok, (k : Int), x⟩ j v hv2)) (fun j v hv2 => (Bm.cell (2 + j)).trans (opg_tail ⟨ok, (k : Int), x⟩ j v hv2))
                  exact StepOf.value x.val (wanted_plain rfl _) (grun_load_at _ _ _ 29 _ rfl p12 2 (eval_get e4) x.cells.toArray _ hc Try.underlying29 rfl (by rw [tabE22]; rfl)) (H.quiet 5 _ (by decide) (by rw [← hV]; rfl))
                · have e7 := at_base hbase 7 (by kernel_rfl) (v := .pointer (some ⟨a7, 0, none⟩)) rfl
                  have e1 := at_done H.vals hv (hD 1 (by kernel_rfl)) 103 (by kernel_rfl) (v := .int .i64 (k : Int)) (by rw [← hV]; rfl)
                  exact StepOf.value (.pointer (some ⟨a7, k * 11, none⟩)) (wanted_plain rfl _) (by simp [execOp, Act.eval, e7, e1, go_sem, hkk, hkn]) (H.quiet 6 _ (by decide) (by rw [← hV]; rfl))
                · have e6 := at_done H.vals hv (hD 6 (by kernel_rfl)) 108 (by kernel_rfl) (v := .pointer (some ⟨a7, k * 11, none⟩)) (by rw [← hV]; rfl)
                  have e5 := at_done H.vals hv (hD 5 (by kernel_rfl)) 107 (by kernel_rfl) (v := x.val) (by rw [← hV]; rfl)
                  have hwx := H.ahead hDj
                  have Hd := H.done (by rw [← hV]; rfl)
                  subst hwx
                  exact StepOf.skip (wanted_plain rfl _) (grun_store_at _ _ _ 29 _ _ rfl a7 (k * 11) x.cells.toArray (eval_get e6) (eval_get e5) (there_at Ba2.out (by rw [Nah.out.size]; have : x.cells.toArray.size = 11 := rfl; omega)) (by rw [tabE22]; rfl) x.one) Hd
                · have e9 := at_base hbase 9 (by kernel_rfl) (v := .pointer (some ⟨a9, 0, none⟩)) rfl
                  have e3 := at_done H.vals hv (hD 3 (by kernel_rfl)) 105 (by kernel_rfl) (v := .int .i64 (k : Int)) (by rw [← hV]; rfl)
                  exact StepOf.value (.pointer (some ⟨a9, k, none⟩)) (wanted_plain rfl _) (by simp [execOp, Act.eval, e9, e3, go_sem, hkk, hkn]) (H.quiet 8 _ (by decide) (by rw [← hV]; rfl))
              case hend =>
                intro D vs W7x hall H
                have hnow := H.now
                rw [hall 7 (by omega), if_pos rfl] at hnow
                have v0 := H.vals 0 _ (hall 0 (by omega)) (by rw [← hV]; rfl)
                have v1 := H.vals 1 _ (hall 1 (by omega)) (by rw [← hV]; rfl)
                have v2 := H.vals 2 _ (hall 2 (by omega)) (by rw [← hV]; rfl)
                have v3 := H.vals 3 _ (hall 3 (by omega)) (by rw [← hV]; rfl)
                have v4 := H.vals 4 _ (hall 4 (by omega)) (by rw [← hV]; rfl)
                have v5 := H.vals 5 _ (hall 5 (by omega)) (by rw [← hV]; rfl)
                have v6 := H.vals 6 _ (hall 6 (by omega)) (by rw [← hV]; rfl)
                have v8 := H.vals 8 _ (hall 8 (by omega)) (by rw [← hV]; rfl)
                simp only [puts, List.range, List.range.loop, List.foldl_cons, List.foldl_nil, List.getElem?_toArray, List.getElem?_cons_succ, List.getElem?_cons_zero, Option.bind_some, Option.bind_none, Act.put, List.setIfInBounds_toArray, List.set_cons_succ, List.set_cons_zero, v0, v1, v2, v3, v4, v5, v6, v8]
                simp only [List.drop_succ_cons, List.drop_zero]
                clear v0 v1 v2 v3 v4 v5 v6 v8 hall H hV
                subst hnow
                generalize w7.drew.setCells a7 (k * 11) x.cells = w8 at *
                clear Bm Ba
                obtain ⟨C9, B9, N9⟩ := Mm.out.c9
                have hC9 := N9.get k hkn
                have hM9 := hid (Mm.out.is hd.out k hkn true)
                have hR9 := hid (hRh.out.put k x hx0.out (nodeB_few hwh.out.1) q' c')
                obtain ⟨l9, m9, f9⟩ := B9
                have hCk := (m9 k).trans hC9
                clear m9
                go_wp2_with fail
                exact ⟨⟨i + 1, gg, oo, by omega, by have := hil9.out.1; omega, rfl, rfl, rfl, _, _, _, _, _, _, _, _, _, _, _, _, _, _, by have := hil9.out.2; omega, hM9.out, hR9.out⟩, hmeas.out _ rfl⟩
            · -- it is not
              have hB : nodeB x.lf x.m x.f x.nx x.k x.c = false ∨ ¬ (1 ≤ oi ∧ oi < 256) := by
                by_cases hb : x.good = true
                · exact .inr fun h => hw ⟨hb, h⟩
                · exact .inl (by simpa [NdX.good] using hb)
              have KP := gputN_bad gg b9 n9 D9 wc hM12.out.G.m oi x.lf x.q x.m x.cap x.f hxf.out x.nx x.k x.c hx.out.cap hx.out.max hx.out.row hB
              have KR := fun (W : World) (hW : x.lies W) => refNode_any x.lf x.q x.m x.cap x.f hxf.out x.nx x.k x.c hW.cap hW.max W hW.row
              have hin : nodeB x.lf x.m x.f x.nx x.k x.c = true → ¬ (1 ≤ oi ∧ oi < 256) := fun hb h => hw ⟨hb, h⟩
              generalize nodeB x.lf x.m x.f x.nx x.k x.c = gd at *
              clear hB hw
              cases gd with
              | true =>
                rw [show (decide (1 ≤ oi ∧ oi < 256)) = false from decide_eq_false (hin rfl)]
                clear hin
                replace KP := hid KP
                replace KR := hid KR
                go_wp2_with fail
                refine KP.out.mono ?_
                rintro e w6 ⟨rfl, hb6⟩
                have M6 := hid (hM12.out.more hb6)
                have B6 := hid (B12.out.more hb6)
                have x6 := hid (show x.lies w6 from hx.out.more hb6)
                clear hb6 KP hM12 B12 l12 m12 f12 hx
                obtain ⟨l12, m12, f12⟩ := B6.out
                go_wp2_with fail
                refine (KR.out _ x6.out).mono ?_
                rintro e w7 ⟨rfl, hb7⟩
                have M7 := hid (M6.out.more hb7)
                have B7 := hid (B6.out.more hb7)
                clear hb7 M6 B6 KR x6 l12 m12 f12
                obtain ⟨l12, m12, f12⟩ := B7.out
                go_wp2_with fail
                exact ⟨⟨i + 1, gg, oo, by omega, by have := hil9.out.1; omega, rfl, rfl, rfl, _, _, _, _, _, _, _, _, _, _, _, _, _, _, by have := hil9.out.2; omega, M7.out, hRh.out⟩, hmeas.out _ rfl⟩
              | false =>
                clear hin
                replace KP := hid KP
                replace KR := hid KR
                go_wp2_with fail
                refine KP.out.mono ?_
                rintro e w6 ⟨rfl, hb6⟩
                have M6 := hid (hM12.out.more hb6)
                have B6 := hid (B12.out.more hb6)
                have x6 := hid (show x.lies w6 from hx.out.more hb6)
                clear hb6 KP hM12 B12 l12 m12 f12 hx
                obtain ⟨l12, m12, f12⟩ := B6.out
                go_wp2_with fail
                refine (KR.out _ x6.out).mono ?_
                rintro e w7 ⟨rfl, hb7⟩
                have M7 := hid (M6.out.more hb7)
                have B7 := hid (B6.out.more hb7)
                clear hb7 M6 B6 KR x6 l12 m12 f12
                obtain ⟨l12, m12, f12⟩ := B7.out
                go_wp2_with fail
                exact ⟨⟨i + 1, gg, oo, by omega, by have := hil9.out.1; omega, rfl, rfl, rfl, _, _, _, _, _, _, _, _, _, _, _, _, _, _, by have := hil9.out.2; omega, M7.out, hRh.out⟩, hmeas.out _ rfl⟩
          · by_cases hw : 1 ≤ oi ∧ oi < 256
            · -- one goes
              rw [show (decide (1 ≤ oi ∧ oi < 256)) = true from decide_eq_true hw]
              have KD := gdropN hM12.out.G oi hoi.out
              rw [show (decide (1 ≤ oi ∧ oi < 256)) = true from decide_eq_true hw] at KD
              obtain ⟨k, rfl⟩ : ∃ k : Nat, oi = (k : Int) := ⟨oi.toNat, by omega⟩
              have hk1 := hid (show 1 ≤ k ∧ k < 256 by omega)
              rw [Bool.true_and, Int.toNat_natCast, ← hRh.out.hi k hk1.out.1 hk1.out.2] at KD
              replace KD := hid KD
              have hpb2 := hid (show p12 ≠ b9 by have := hpb.out; omega)
              have hkk : (k : Int) < 256 := by omega
              have hkn : k < 256 := hk1.out.2
              clear hw
              go_wp2_with fail
              refine KD.out.mono ?_
              rintro e w6 ⟨rfl, G6, S6⟩
              have M6 := hid (hM12.out.turned S6 G6)
              have B6 := hid (B12.out.sole S6 hpb2.out)
              clear S6 G6 KD hM12 B12 l12 m12 f12 hx
              obtain ⟨C9, B9, N9⟩ := M6.out.c9
              have hC9 := N9.get k hkn
              have hM9 := hid (M6.out.is hd.out k hkn false)
              have hR9 := hid (hRh.out.dropN k hk1.out.1 hk1.out.2)
              obtain ⟨l9, m9, f9⟩ := B9
              have hCk := (m9 k).trans hC9
              clear m9 hC9
              obtain ⟨l12, m12, f12⟩ := B6.out
              generalize hI : I k = ik at hCk ⊢
              clear hI
              cases ik with
              | true =>
                go_wp2_with fail
                exact ⟨⟨i + 1, gg, oo, by omega, by have := hil9.out.1; omega, rfl, rfl, rfl, _, _, _, _, _, _, _, _, _, _, _, _, _, _, by have := hil9.out.2; omega, hM9.out, hR9.out⟩, hmeas.out _ rfl⟩
              | false =>
                go_wp2_with fail
                exact ⟨⟨i + 1, gg, oo, by omega, by have := hil9.out.1; omega, rfl, rfl, rfl, _, _, _, _, _, _, _, _, _, _, _, _, _, _, by have := hil9.out.2; omega, hM9.out, hR9.out⟩, hmeas.out _ rfl⟩
            · -- there is no such one
              rw [show (decide (1 ≤ oi ∧ oi < 256)) = false from decide_eq_false hw]
              have KD := gdropN hM12.out.G oi hoi.out
              rw [show (decide (1 ≤ oi ∧ oi < 256)) = false from decide_eq_false hw] at KD
              rw [Bool.false_and] at KD
              have hR9 := hid (hRh.out.none oi hw)
              replace KD := hid KD
              have hpb2 := hid (show p12 ≠ b9 by have := hpb.out; omega)
              clear hw
              go_wp2_with fail
              refine KD.out.mono ?_
              rintro e w6 ⟨rfl, G6, S6⟩
              have M6 := hid (hM12.out.turned S6 G6)
              have B6 := hid (B12.out.sole S6 hpb2.out)
              clear S6 G6 KD hM12 B12 l12 m12 f12 hx
              obtain ⟨l12, m12, f12⟩ := B6.out
              go_wp2_with fail
              exact ⟨⟨i + 1, gg, oo, by omega, by have := hil9.out.1; omega, rfl, rfl, rfl, _, _, _, _, _, _, _, _, _, _, _, _, _, _, by have := hil9.out.2; omega, M6.out, hR9.out⟩, hmeas.out _ rfl⟩
          · -- what is becomes what was
            go_upto_region 13 with (fail)
            clear l12 m12 f12
            have M7 := hid hM12.out.drew
            obtain ⟨C7, B7, N7⟩ := M7.out.c7
            obtain ⟨C8, B8, N8⟩ := M7.out.c8
            obtain ⟨C9, B9, N9⟩ := M7.out.c9
            obtain ⟨C10, B10, N10⟩ := M7.out.c10
            have hMw := hid (M7.out.was hd.out B7 N7 B9 N9)
            have h78 : a7 ≠ a8 := by have := hd.out.h1; omega
            have h98 : a9 ≠ a8 := by have := hd.out.h2; omega
            have hA8 := hid M7.out.arr
            have B7m : Blk (wc.drew.setCells a8 0 C7.toList) a7 C7 := B7.beside (fun e => h78 e.symm) 0 _
            have B9m : Blk (wc.drew.setCells a8 0 C7.toList) a9 C9 := B9.beside (fun e => h98 e.symm) 0 _
            have B10m := hid (show Blk (wc.drew.setCells a8 0 C7.toList) a10 C10 from B10.beside (show a8 ≠ a10 by have := hd.out.h2; have := hd.out.h3; omega) 0 _)
            have hN := hid (And.intro (And.intro N7 N8) (And.intro N9 N10))
            clear hM12 B12 hx
            generalize hV : tabWas gg C7 C9 = V
            refine wp_region_inv 5 (fun D vs wx => IW 4 wc.drew (wc.drew.setCells a8 0 C7.toList) V D vs wx) (by kernel_rfl) (by kernel_rfl) ?h0 ?hstep ?hend
            case h0 => exact ⟨Vals.nil, rfl⟩
            case hstep =>
              intro n o hj ho D vs ax wx hDj hD hv hbase H
              rcases (show n = 0 ∨ n = 1 ∨ n = 2 ∨ n = 3 ∨ n = 4 by omega) with rfl | rfl | rfl | rfl | rfl
              all_goals
                simp only [List.getElem?_cons_zero, List.getElem?_cons_succ, Option.some.injEq] at ho
                subst ho
              · have e5 := at_base hbase 5 (by kernel_rfl) (v := .pointer (some ⟨gg, 0, none⟩)) rfl
                exact StepOf.value (.pointer (some ⟨gg, 0, none⟩)) (wanted_plain rfl _) (by simp [execOp, Act.eval, e5, go_sem]) (H.quiet 0 _ (by decide) (by rw [← hV]; rfl))
              · have e7 := at_base hbase 7 (by kernel_rfl) (v := .pointer (some ⟨a7, 0, none⟩)) rfl
                have hc := H.at (R := fun W => W.rangeAt a7 0 C7.toList) B7.range B7m.range
                exact StepOf.value (.agg C7) (wanted_plain rfl _) (grun_load_at _ _ _ 30 _ rfl a7 0 (eval_get e7) C7 _ hc Try.underlying30 rfl (by rw [tabN22, hN.out.1.1.size])) (H.quiet 1 _ (by decide) (by rw [← hV]; rfl))
              · have e9 := at_base hbase 9 (by kernel_rfl) (v := .pointer (some ⟨a9, 0, none⟩)) rfl
                have hc := H.at (R := fun W => W.rangeAt a9 0 C9.toList) B9.range B9m.range
                exact StepOf.value (.agg C9) (wanted_plain rfl _) (grun_load_at _ _ _ 31 _ rfl a9 0 (eval_get e9) C9 _ hc Try.underlying31 rfl (by rw [tabB22, hN.out.2.1.size])) (H.quiet 2 _ (by decide) (by rw [← hV]; rfl))
              · have e0 := at_done H.vals hv (hD 0 (by kernel_rfl)) 58 (by kernel_rfl) (v := .pointer (some ⟨gg, 0, none⟩)) (by rw [← hV]; rfl)
                exact StepOf.value (.pointer (some ⟨gg, 0, none⟩)) (wanted_plain rfl _) (by simp [execOp, Act.eval, e0, go_sem]) (H.quiet 3 _ (by decide) (by rw [← hV]; rfl))
              · have e8 := at_base hbase 8 (by kernel_rfl) (v := .pointer (some ⟨a8, 0, none⟩)) rfl
                have e1 := at_done H.vals hv (hD 1 (by kernel_rfl)) 59 (by kernel_rfl) (v := .agg C7) (by rw [← hV]; rfl)
                have hwx := H.ahead hDj
                have Hd := H.done (by rw [← hV]; rfl)
                subst hwx
                exact StepOf.skip (wanted_plain rfl _) (grun_store_at _ _ _ 30 _ _ rfl a8 0 C7 (eval_get e8) (eval_get e1) (there_at B8 (by rw [hN.out.1.1.size, hN.out.1.2.size]; omega)) (by rw [tabN22, hN.out.1.1.size]) hN.out.1.1.one) Hd
            case hend =>
              intro D vs W7x hall H
              have hnow := H.now
              rw [hall 4 (by omega), if_pos rfl] at hnow
              have v0 := H.vals 0 _ (hall 0 (by omega)) (by rw [← hV]; rfl)
              have v1 := H.vals 1 _ (hall 1 (by omega)) (by rw [← hV]; rfl)
              have v2 := H.vals 2 _ (hall 2 (by omega)) (by rw [← hV]; rfl)
              have v3 := H.vals 3 _ (hall 3 (by omega)) (by rw [← hV]; rfl)
              simp only [puts, List.range, List.range.loop, List.foldl_cons, List.foldl_nil, List.getElem?_toArray, List.getElem?_cons_succ, List.getElem?_cons_zero, Option.bind_some, Option.bind_none, Act.put, List.setIfInBounds_toArray, List.set_cons_succ, List.set_cons_zero, v0, v1, v2, v3]
              simp only [List.drop_succ_cons, List.drop_zero]
              clear v0 v1 v2 v3 hall H hV
              subst hnow
              have th := there_at (n := C9.size) B10m.out (o := 0) (by rw [hN.out.2.1.size, hN.out.2.2.size]; omega)
              have hon := hN.out.2.1.one
              have hsz9 := hid (show (Try.prog.info? 31).map (·.size) = some C9.size by rw [tabB22, hN.out.2.1.size])
              clear B7 B8 B9 B10 N7 N8 N9 N10 B7m B9m B10m hN
              go_upto_region 14 with (refine wpList_store_mid rfl 31 _ _ rfl a10 0 C9 rfl rfl th hsz9.out hon ?_)
              clear th hon hsz9
              have hA9 := hid (show ∀ k, ArS a7 a8 a9 a10 k → k < ((wc.drew.setCells a8 0 C7.toList).setCells a10 0 C9.toList).heap.size from fun k hk => by rw [size_cells, size_cells]; exact hA8.out k hk)
              generalize World.setCells (World.setCells wc.drew _ _ _) _ _ _ = w8 at *
              clear M7 hA8
              go_wp2_with fail
              refine (gcloneN hMw.out.2.2.2.2.1 hA9.out).mono ?_
              rintro e w9 ⟨g3, b3, rfl, hg3, hb3, G9, hb9⟩
              have hM9 := hid (RunM.cloned hMw.out.1 hMw.out.2.1 hMw.out.2.2.1 hMw.out.2.2.2.1 hMw.out.2.2.2.2.1 hMw.out.2.2.2.2.2 G9 hb9 hb3)
              clear hg3 hb3 G9 hb9 hMw hA9
              go_wp2_with fail
              exact ⟨⟨i + 1, g3, gg, by omega, by have := hil9.out.1; omega, rfl, rfl, rfl, _, _, _, _, _, _, _, _, _, _, _, _, _, _, by have := hil9.out.2; omega, hM9.out, hRh.out.was⟩, hmeas.out _ rfl⟩
      · have hl4i : ¬ (i : Int) < 40 := by omega
        obtain ⟨A, B, X, Y, I, J, H, K, b9, n9, D9, bo, no, Do, hn9, M, R⟩ := hst
        have hM9 := hid M
        have hR9 := hid R
        have hn40 : n9 ≤ 40 := by omega
        clear M R
        go_wp2_with fail
        refine aK1.out _ _ ?_
        exact groveTail w _ a7 a8 a9 a10 A B X Y I J H K gg b9 n9 D9 oo bo no Do hn40 hM9 hR9 look hlk (hid (fun w' h => ⟨rfl, h⟩))
    · have hlti : ¬ (i : Int) < (nl : Int) := by omega
      obtain ⟨A, B, X, Y, I, J, H, K, b9, n9, D9, bo, no, Do, hn9, M, R⟩ := hst
      have hM9 := hid M
      have hR9 := hid R
      have hn40 : n9 ≤ 40 := by omega
      clear M R
      go_wp2_with fail
      refine aK1.out _ _ ?_
      exact groveTail w _ a7 a8 a9 a10 A B X Y I J H K gg b9 n9 D9 oo bo no Do hn40 hM9 hR9 look hlk (hid (fun w' h => ⟨rfl, h⟩))
end Go.Proofs.Ytghboanmiggcnaa

/-
  From a walk to its row, where the walk asks how long an argument may be: the form's own reach.
-/

namespace Go.Proofs.Ytghboanmiggcnaa
open Go.ChangeShapes Go.WideShapes Go.ChangeAt Go.RowKit
set_option linter.unusedVariables false

/-- The row's step, of any law. -/
theorem lift_sized {C : Checked} {f : FuncId} {fn : Func} {s : ChangeSpec} {tb : TypeId} (hown : ownKnob C.prog.godebug = none) (noInit : C.prog.inits.idxOf? f = none) (hfn : C.prog.funcs[f]? = some fn)
    (hl : laidOutB C.prog = true) (hvars : s.vars = []) (hres : fn.resultTypes = #[tb]) (htb : C.prog.underlying tb = some .bool)
    (hts : (fn.params.toList.all fun t => C.prog.readableRec t && decide (t < C.prog.types.size)) = true)
    (hs : ∀ (H : Type) (ds : List (DataW H)), ds.length = fn.params.toList.length → s.fn H (ds ++ []) = { results := [.lit (.bool true)], args := ds })
    (os : Os) (started : os.Started) (H : Type) (enc : TypeId × Value → H)
    (witness : ∃ (w : World) (tape : Tape) (i : Input), w.os = os ∧ (w.forCall tape i).Shaped C.prog ∧ i.vars = [] ∧ Input.okWide C.prog (w.forCall tape i) .any w.heap.size f i ∧
      s.pre6 enc C.prog fn [] false (w.forCall tape i).memory i.args ∧ ({} : Assume).holds C.prog (lone (Frame.enter C.prog f i.args .normal) [] (w.forCall tape i)))
    (walk : ∀ (W : World) (base : Nat) (args : Array Value) (ds : List (DataW H)) (ps : List MemPlace),
      (∀ (j : Nat) t v, fn.params[j]? = some t → args[j]? = some v → Value.okWide C.prog W .any base t v) →
      DataW.TrodAll enc C.prog W 0 (fun _ => true) true fn.params.toList args.toList ds ps →
      (DataW.weightsEach C.prog (fn.params.toList ++ s.plain.varTypes C.prog) (ds ++ [])).all (· ≤ reachBytes) = true →
      Calls C.prog f args W fun e W' => e = .returned (.bool true) ∧ Below W.heap.size W W') :
    ReturnsInHanded {} C os f .any (s.pre6 enc C.prog fn [] false) (s.post enc C.prog fn false true false false) := by
  refine returnsInHanded_of_change_sized (C := C) hown started noInit hfn witness ?_
  intro W base args ds gs before hval hW _ hsz _
  have hW' := hW
  obtain ⟨p, q, hA, hV, rfl, hfz, hnd⟩ := hW
  rw [hvars] at hV
  obtain ⟨rfl, rfl⟩ := trodVars_none hV
  refine (walk W base args ds p hval hA hsz).mono fun e W' ⟨he, hb⟩ => ?_
  subst he
  have hfnv := hs H ds (trodAll_length hA)
  refine ⟨_, rfl, ds, [], p ++ [], [], p, [], hW', ?_, ?_, ?_, hb.frame _, fun h => by cases h⟩
  · rw [hfnv, hres]
    exact trodAll_mk1 (shut_bool htb true)
  · rw [hfnv]
    exact trodAll_below hl hb hts hA
  · rw [hfnv, hvars]
    exact rfl
end Go.Proofs.Ytghboanmiggcnaa

/-
  Octets that come in, as a list; a text that comes in.
-/



namespace Go.Proofs.Ytghboanmiggcnaa
open Go.ChangeShapes Go.WideShapes Go.ChangeAt Go.RowKit Go.Joins Go.Deep
set_option linter.unusedVariables false

/-- One parameter off the list, with its datum. -/
theorem args_consd {H : Type} {enc : TypeId × Value → H} {P : Program} {w : World} {base : Nat} {spare : Nat → Bool} {held : Bool} {t : TypeId} {ts : List TypeId} {vs : List Value} {ds : List (DataW H)} {ps : List MemPlace} (h : DataW.TrodAll enc P w base spare held (t :: ts) vs ds ps) :
    ∃ v vs' d ds' p q, vs = v :: vs' ∧ ds = d :: ds' ∧ DataW.Trod enc P w base spare held t v d p ∧ DataW.TrodAll enc P w base spare held ts vs' ds' q := by
  obtain ⟨v, vs', d, ds', p, q, h1, h2, _, h3, h4⟩ := trodAll_cons h
  exact ⟨v, vs', d, ds', p, q, h1, h2, h3, h4⟩
theorem bytes_u8 : Try.prog.bytesOf 5 = 1 := by kernel_rfl
end Go.Proofs.Ytghboanmiggcnaa

/-
  What an argument that comes in is: a node.
-/




namespace Go.Proofs.Ytghboanmiggcnaa
open Go.ChangeShapes Go.WideShapes Go.ChangeAt Go.RowKit Go.Joins Go.Deep
set_option linter.unusedVariables false

section
variable {H : Type} {enc : TypeId × Value → H} {P : Program} {w : World} {base : Nat} {spare : Nat → Bool} {held : Bool}
/-- A slice of structs of one-cell fields in a field. -/
theorem sl_in8 {t e : TypeId} {fs : Array Field} {v : Value} {fuel : Nat} {x : DataW H × List MemPlace} (ht : P.underlying t = some (.slice e)) (he : P.underlying e = some (.struct fs))
    (hone : oneCellFields P fs = true) (hC : P.cellsOf e = fs.size) (hpos : 0 < fs.size) (h : DataW.trod enc P w base spare held fuel t [v] = some x) :
    ∃ (n : Nat) (F : Nat → Nat → Value), (∃ p cap, v = .slice p n cap ∧ n ≤ cap ∧ cap ≤ maxLen ∧ (n = 0 ∨ ∃ b o, p = some ⟨b, o, none⟩ ∧ b < w.heap.size ∧ ∀ i, i < n → ∀ j, j < fs.size → w.cell? ⟨b, o + i * fs.size + j, none⟩ = some (F i j))) ∧
      (∀ i, i < n → ∀ j f, fs[j]? = some f → ∃ m y, DataW.trod enc P w base spare held m f.type [F i j] = some y) ∧ (n = 0 ∨ ∃ el sp, x.1 = .slice el sp ∧ el.length = n) := by
  rcases open_slice_fields ht he hone hC h with hcs | ⟨a, len, cap, m, hcs, hl, hm, hmm, hi⟩
  · simp at hcs
    subst hcs
    exact ⟨0, fun _ _ => undef, ⟨none, 0, rfl, by omega, by unfold maxLen; omega, .inl rfl⟩, fun i hi => absurd hi (Nat.not_lt_zero _), .inl rfl⟩
  · simp at hcs
    subst hcs
    have hx : ∃ el sp, x.1 = .slice el sp ∧ el.length = len := by
      rcases open_slice ht h with ⟨h0, _⟩ | ⟨a', len', cap', m', n', D, Pl, hcs', _, _, _, _, hx, _⟩
      · simp at h0
      · simp at hcs'
        obtain ⟨_, rfl, _⟩ := hcs'
        exact ⟨_, _, by rw [hx], by simp⟩
    have hlm : len ≤ m := by rw [hmm]; split <;> omega
    by_cases h0 : len = 0
    · subst h0
      exact ⟨0, fun _ _ => undef, ⟨some a, cap, rfl, by omega, hm, .inl rfl⟩, fun i hi => absurd hi (Nat.not_lt_zero _), .inl rfl⟩
    · have hex : ∀ i j, i < len → j < fs.size → ∃ v, w.cell? (a.add (i * fs.size + j)) = some v ∧ ∀ f, fs[j]? = some f → ∃ m y, DataW.trod enc P w base spare held m f.type [v] = some y := by
        intro i j h1 h2
        obtain ⟨v, n, y, hc, hy⟩ := hi i (by omega) j fs[j] (Array.getElem?_eq_getElem h2)
        refine ⟨v, hc, fun f hfj => ?_⟩
        rw [Array.getElem?_eq_getElem h2] at hfj
        cases hfj
        exact ⟨n, y, hy⟩
      have hexF : ∃ F : Nat → Nat → Value, ∀ i j, i < len → j < fs.size → w.cell? (a.add (i * fs.size + j)) = some (F i j) ∧ ∀ f, fs[j]? = some f → ∃ m y, DataW.trod enc P w base spare held m f.type [F i j] = some y := by
        haveI : Nonempty Value := ⟨undef⟩
        exact ⟨fun i j => Classical.epsilon fun v => w.cell? (a.add (i * fs.size + j)) = some v ∧ ∀ f, fs[j]? = some f → ∃ m y, DataW.trod enc P w base spare held m f.type [v] = some y, fun i j h1 h2 => Classical.epsilon_spec (hex i j h1 h2)⟩
      obtain ⟨F, hF⟩ := hexF
      have c0 := (hF 0 0 (by omega) hpos).1
      have hsp : a.spot = none := by
        have := World.cell?_spot c0
        simpa [Addr.add] using this
      obtain ⟨b, o, sp⟩ := a
      simp only at hsp
      subst hsp
      have hadd : ∀ k, Addr.add ⟨b, o, none⟩ k = ⟨b, o + k, none⟩ := by
        intro k
        unfold Addr.add
        split
        · subst k; rfl
        · rfl
      refine ⟨len, F, ⟨_, cap, rfl, hl, hm, .inr ⟨b, o, rfl, ?_, fun i h1 j h2 => ?_⟩⟩, fun i h1 j f hfj => ?_, .inr hx⟩
      · have := cell_lt c0
        rwa [hadd] at this
      · have := (hF i j h1 h2).1
        rw [hadd, ← Nat.add_assoc] at this
        exact this
      · exact (hF i j h1 (Array.getElem?_eq_some_iff.1 hfj).1).2 f hfj
end

set_option maxRecDepth 100000 in
/-- A node that comes in. -/
theorem nd_of {H : Type} {enc : TypeId × Value → H} {W : World} {b0 : Nat} {v : Value} {d : DataW H} {p : List MemPlace} (hv : Value.okWide Try.prog W .any b0 29 v) (h : DataW.Trod enc Try.prog W 0 (fun _ => true) true 29 v d p) :
    ∃ (lf : Bool) (q : Option Addr) (n cap : Nat) (f : Nat → Pt) (nx : Int) (k c : Nat → Int), v = ndval lf (.slice q n cap) nx k c ∧ n ≤ cap ∧ cap ≤ maxLen ∧ RowP W q 4 n (fun i => pcells (f i)) ∧ (∀ i, i < n → (f i).ok) ∧ ∀ i, i < 4 → -9223372036854775808 ≤ c i ∧ c i ≤ 9223372036854775807 := by
  obtain ⟨cs, rfl, hsz⟩ := okWide_struct Try.underlying29 hv
  obtain ⟨fuel, hf⟩ := h
  obtain ⟨xs, m, _, hx, hl, hxl, hfield⟩ := DataW.trod_struct Try.underlying29 hf
  have hC : Try.prog.cellsOf 29 = 11 := by kernel_rfl
  have hcb : Try.prog.cellsOf 4 = 1 := by kernel_rfl
  have hcs : Try.prog.cellsOf 26 = 1 := by kernel_rfl
  have hci : Try.prog.cellsOf 3 = 1 := by kernel_rfl
  have hca : Try.prog.cellsOf 27 = 4 := by kernel_rfl
  have hl' : cs.toList.length = 11 := by rw [← hC]; exact hl
  have hxl' : xs.length = 5 := hxl
  obtain ⟨l⟩ := cs
  match l, hl', xs, hxl' with
  | [e0, e1, e2, k0, k1, k2, k3, c0, c1, c2, c3], _, [y0, y1, y2, y3, y4], _ =>
    have h0 := hfield 0 _ rfl
    have h1 := hfield 1 _ rfl
    have h2 := hfield 2 _ rfl
    have h3 := hfield 3 _ rfl
    have h4 := hfield 4 _ rfl
    simp [Value.cells, hcb, hcs, hci, hca] at h0 h1 h2 h3 h4
    obtain ⟨lf, r0, _⟩ := DataW.trod_bool Try.underlying4 h0
    obtain ⟨nx, r2, _, _⟩ := DataW.trod_int Try.underlying3 h2
    obtain ⟨n, F, ⟨q, cap, hcv, g1, g2, g3⟩, hF, _⟩ := sl_in8 Try.underlying26 Try.underlying53 (by kernel_rfl) (by kernel_rfl) (by decide) h1
    obtain ⟨_, _, _, _, _, _, a0, a1, a2, a3⟩ := trod_array4 Try.underlying27 hci h3
    obtain ⟨_, _, _, _, _, _, b0', b1, b2, b3⟩ := trod_array4 Try.underlying27 hci h4
    obtain ⟨z0, s0, _, _⟩ := DataW.trod_int Try.underlying3 a0
    obtain ⟨z1, s1, _, _⟩ := DataW.trod_int Try.underlying3 a1
    obtain ⟨z2, s2, _, _⟩ := DataW.trod_int Try.underlying3 a2
    obtain ⟨z3, s3, _, _⟩ := DataW.trod_int Try.underlying3 a3
    obtain ⟨u0, t0, _, w0⟩ := DataW.trod_int Try.underlying3 b0'
    obtain ⟨u1, t1, _, w1⟩ := DataW.trod_int Try.underlying3 b1
    obtain ⟨u2, t2, _, w2⟩ := DataW.trod_int Try.underlying3 b2
    obtain ⟨u3, t3, _, w3⟩ := DataW.trod_int Try.underlying3 b3
    simp at r0 r2 s0 s1 s2 s3 t0 t1 t2 t3
    subst r0 r2 s0 s1 s2 s3 t0 t1 t2 t3 hcv
    have each : ∀ i, i < n → ∃ q : Pt, q.ok ∧ [F i 0, F i 1, F i 2, F i 3] = pcells q := by
      intro i hi
      obtain ⟨m0, y0, t0⟩ := hF i hi 0 _ rfl
      obtain ⟨m1, y1, t1⟩ := hF i hi 1 _ rfl
      obtain ⟨m2, y2, t2⟩ := hF i hi 2 _ rfl
      obtain ⟨m3, y3, t3⟩ := hF i hi 3 _ rfl
      obtain ⟨a, e0, _, w0⟩ := DataW.trod_int Try.underlying3 t0
      obtain ⟨b, e1, _, w1⟩ := DataW.trod_int Try.underlying51 t1
      obtain ⟨c, e2, _, w2⟩ := DataW.trod_int Try.underlying51 t2
      obtain ⟨s, e3, _, w3⟩ := DataW.trod_string Try.underlying9 t3
      simp at e0 e1 e2 e3
      have g0 := bounds_i64 w0
      have g1 := bounds_u32 w1
      have g2 := bounds_u32 w2
      exact ⟨⟨a, b, c, s⟩, ⟨g0.1, g0.2, g1.1, g1.2, g2.1, g2.2, w3⟩, by rw [e0, e1, e2, e3]; rfl⟩
    have hg : ∃ g : Nat → Pt, ∀ i, i < n → (g i).ok ∧ [F i 0, F i 1, F i 2, F i 3] = pcells (g i) := by
      haveI : Nonempty Pt := ⟨⟨0, 0, 0, ByteArray.empty⟩⟩
      exact ⟨fun i => Classical.epsilon fun q => q.ok ∧ [F i 0, F i 1, F i 2, F i 3] = pcells q, fun i hi => Classical.epsilon_spec (each i hi)⟩
    obtain ⟨g, hg⟩ := hg
    refine ⟨lf, q, n, cap, g, nx, fun i => if i = 0 then z0 else if i = 1 then z1 else if i = 2 then z2 else z3, fun i => if i = 0 then u0 else if i = 1 then u1 else if i = 2 then u2 else u3, rfl, g1, g2, g3.imp id fun ⟨b, o, e, hlt, hc⟩ => ⟨b, o, e, hlt, fun i hi j v hv => ?row⟩, fun i hi => (hg i hi).1, fun i hi => ?bd⟩
    case row =>
      rw [← (hg i hi).2] at hv
      match j, hv with
      | 0, hv => simp at hv; subst hv; exact hc i hi 0 (by decide)
      | 1, hv => simp at hv; subst hv; exact hc i hi 1 (by decide)
      | 2, hv => simp at hv; subst hv; exact hc i hi 2 (by decide)
      | 3, hv => simp at hv; subst hv; exact hc i hi 3 (by decide)
    case bd =>
      match i, hi with
      | 0, _ => exact bounds_i64 w0
      | 1, _ => exact bounds_i64 w1
      | 2, _ => exact bounds_i64 w2
      | 3, _ => exact bounds_i64 w3
end Go.Proofs.Ytghboanmiggcnaa

/-
  Calls of a grove that come in.
-/




namespace Go.Proofs.Ytghboanmiggcnaa
open Go.ChangeShapes Go.WideShapes Go.ChangeAt Go.RowKit Go.Joins Go.Deep
set_option linter.unusedVariables false
set_option linter.unusedSimpArgs false

set_option maxRecDepth 100000 in
/-- A node in a field. -/
theorem nd_inX {H : Type} {enc : TypeId × Value → H} {W : World} {cs : List Value} {fuel : Nat} {x : DataW H × List MemPlace} (hf : DataW.trod enc Try.prog W 0 (fun _ => true) true fuel 29 cs = some x) :
    ∃ d : NdX, cs = d.cells ∧ d.lies W ∧ ∀ i, i < d.m → (d.f i).ok := by
  obtain ⟨xs, m, _, hx, hl, hxl, hfield⟩ := DataW.trod_struct Try.underlying29 hf
  have hC : Try.prog.cellsOf 29 = 11 := by kernel_rfl
  have hcb : Try.prog.cellsOf 4 = 1 := by kernel_rfl
  have hcs : Try.prog.cellsOf 26 = 1 := by kernel_rfl
  have hci : Try.prog.cellsOf 3 = 1 := by kernel_rfl
  have hca : Try.prog.cellsOf 27 = 4 := by kernel_rfl
  have hl' : cs.length = 11 := by rw [← hC]; exact hl
  have hxl' : xs.length = 5 := hxl
  match cs, hl', xs, hxl' with
  | [e0, e1, e2, k0, k1, k2, k3, c0, c1, c2, c3], _, [y0, y1, y2, y3, y4], _ =>
    have h0 := hfield 0 _ rfl
    have h1 := hfield 1 _ rfl
    have h2 := hfield 2 _ rfl
    have h3 := hfield 3 _ rfl
    have h4 := hfield 4 _ rfl
    simp [Value.cells, hcb, hcs, hci, hca] at h0 h1 h2 h3 h4
    obtain ⟨lf, r0, _⟩ := DataW.trod_bool Try.underlying4 h0
    obtain ⟨nx, r2, _, _⟩ := DataW.trod_int Try.underlying3 h2
    obtain ⟨n, F, ⟨q, cap, hcv, g1, g2, g3⟩, hF, _⟩ := sl_in8 Try.underlying26 Try.underlying53 (by kernel_rfl) (by kernel_rfl) (by decide) h1
    obtain ⟨_, _, _, _, _, _, a0, a1, a2, a3⟩ := trod_array4 Try.underlying27 hci h3
    obtain ⟨_, _, _, _, _, _, b0', b1, b2, b3⟩ := trod_array4 Try.underlying27 hci h4
    obtain ⟨z0, s0, _, _⟩ := DataW.trod_int Try.underlying3 a0
    obtain ⟨z1, s1, _, _⟩ := DataW.trod_int Try.underlying3 a1
    obtain ⟨z2, s2, _, _⟩ := DataW.trod_int Try.underlying3 a2
    obtain ⟨z3, s3, _, _⟩ := DataW.trod_int Try.underlying3 a3
    obtain ⟨u0, t0, _, w0⟩ := DataW.trod_int Try.underlying3 b0'
    obtain ⟨u1, t1, _, w1⟩ := DataW.trod_int Try.underlying3 b1
    obtain ⟨u2, t2, _, w2⟩ := DataW.trod_int Try.underlying3 b2
    obtain ⟨u3, t3, _, w3⟩ := DataW.trod_int Try.underlying3 b3
    simp at r0 r2 s0 s1 s2 s3 t0 t1 t2 t3
    subst r0 r2 s0 s1 s2 s3 t0 t1 t2 t3 hcv
    have each : ∀ i, i < n → ∃ q : Pt, q.ok ∧ [F i 0, F i 1, F i 2, F i 3] = pcells q := by
      intro i hi
      obtain ⟨m0, y0, t0⟩ := hF i hi 0 _ rfl
      obtain ⟨m1, y1, t1⟩ := hF i hi 1 _ rfl
      obtain ⟨m2, y2, t2⟩ := hF i hi 2 _ rfl
      obtain ⟨m3, y3, t3⟩ := hF i hi 3 _ rfl
      obtain ⟨a, e0, _, w0⟩ := DataW.trod_int Try.underlying3 t0
      obtain ⟨b, e1, _, w1⟩ := DataW.trod_int Try.underlying51 t1
      obtain ⟨c, e2, _, w2⟩ := DataW.trod_int Try.underlying51 t2
      obtain ⟨s, e3, _, w3⟩ := DataW.trod_string Try.underlying9 t3
      simp at e0 e1 e2 e3
      have g0 := bounds_i64 w0
      have g1 := bounds_u32 w1
      have g2 := bounds_u32 w2
      exact ⟨⟨a, b, c, s⟩, ⟨g0.1, g0.2, g1.1, g1.2, g2.1, g2.2, w3⟩, by rw [e0, e1, e2, e3]; rfl⟩
    have hg : ∃ g : Nat → Pt, ∀ i, i < n → (g i).ok ∧ [F i 0, F i 1, F i 2, F i 3] = pcells (g i) := by
      haveI : Nonempty Pt := ⟨⟨0, 0, 0, ByteArray.empty⟩⟩
      exact ⟨fun i => Classical.epsilon fun q => q.ok ∧ [F i 0, F i 1, F i 2, F i 3] = pcells q, fun i hi => Classical.epsilon_spec (each i hi)⟩
    obtain ⟨g, hg⟩ := hg
    refine ⟨⟨lf, n, g, nx, fun i => if i = 0 then z0 else if i = 1 then z1 else if i = 2 then z2 else z3, fun i => if i = 0 then u0 else if i = 1 then u1 else if i = 2 then u2 else u3, q, cap⟩, rfl, ⟨g1, g2, g3.imp id fun ⟨b, o, e, hlt, hc⟩ => ⟨b, o, e, hlt, fun i hi j v hv => ?row⟩⟩, fun i hi => (hg i hi).1⟩
    case row =>
      rw [← (hg i hi).2] at hv
      match j, hv with
      | 0, hv => simp at hv; subst hv; exact hc i hi 0 (by decide)
      | 1, hv => simp at hv; subst hv; exact hc i hi 1 (by decide)
      | 2, hv => simp at hv; subst hv; exact hc i hi 2 (by decide)
      | 3, hv => simp at hv; subst hv; exact hc i hi 3 (by decide)
set_option maxRecDepth 100000 in
/-- A slice of calls that comes in. -/
theorem ops22_of {H : Type} {enc : TypeId × Value → H} {W : World} {b0 : Nat} {v : Value} {d : DataW H} {p : List MemPlace} (hv : Value.okWide Try.prog W .any b0 22 v) (h : DataW.Trod enc Try.prog W 0 (fun _ => true) true 22 v d p) :
    ∃ (n : Nat) (Os : Nat → OpG) (a : Option Addr) (cap : Nat), v = .slice a n cap ∧ n ≤ cap ∧ cap ≤ maxLen ∧ RowP W a 13 n (fun j => (Os j).cells) ∧ ∀ j, j < n → (Os j).ok W := by
  obtain ⟨fuel, hf⟩ := h
  obtain ⟨a0, len, cap, rfl⟩ := okWide_slice Try.underlying22 hv
  rcases open_slice Try.underlying22 hf with ⟨hcs, _⟩ | ⟨a, len', cap', m, n, D, Pl, hcs, hb, hl, hm, hmm, hx, hi⟩
  · simp [Value.cells] at hcs
    obtain ⟨rfl, rfl, rfl⟩ := hcs
    exact ⟨0, fun _ => ⟨0, 0, NdX.zero⟩, none, 0, rfl, Nat.le_refl _, Nat.zero_le _, .inl rfl, fun j hj => absurd hj (Nat.not_lt_zero _)⟩
  · simp [Value.cells] at hcs
    obtain ⟨rfl, rfl, rfl⟩ := hcs
    have hlm : len ≤ m := by rw [hmm]; split <;> omega
    have hC : Try.prog.cellsOf 33 = 13 := by kernel_rfl
    have hci : Try.prog.cellsOf 3 = 1 := by kernel_rfl
    have hcn : Try.prog.cellsOf 29 = 11 := by kernel_rfl
    have each : ∀ i, i < len → ∃ x : OpG, x.ok W ∧ ∀ j u, x.cells[j]? = some u → W.cell? (a.add (i * 13 + j)) = some u := by
      intro i him
      obtain ⟨cs, hc, ht⟩ := hi i (by omega)
      rw [hC] at hc
      obtain ⟨xs, m', _, hx', hl', hxl, hfield⟩ := DataW.trod_struct Try.underlying33 ht
      obtain ⟨_, hcl, hat⟩ := World.cells?_some hc
      obtain ⟨e0, e1, rest, rfl⟩ : ∃ e0 e1 rest, cs = e0 :: e1 :: rest := by
        cases cs with
        | nil => cases hcl
        | cons x l =>
          cases l with
          | nil => cases hcl
          | cons y l => exact ⟨x, y, l, rfl⟩
      have hr : rest.length = 11 := by simpa using hcl
      have hxl' : xs.length = 3 := hxl
      match xs, hxl' with
      | [y0, y1, y2], _ =>
        have h0 := hfield 0 _ rfl
        have h1 := hfield 1 _ rfl
        have h2 := hfield 2 _ rfl
        simp [Value.cells, hci, hcn] at h0 h1 h2
        rw [List.take_of_length_le (by omega)] at h2
        obtain ⟨kd, r0, _, w0⟩ := DataW.trod_int Try.underlying3 h0
        obtain ⟨id, r1, _, w1⟩ := DataW.trod_int Try.underlying3 h1
        simp at r0 r1
        subst r0 r1
        obtain ⟨d, rfl, hd, hf⟩ := nd_inX h2
        refine ⟨⟨kd, id, d⟩, ⟨w0, w1, hd, hf⟩, fun j u hu => ?_⟩
        have hj : j < 13 := (List.getElem?_eq_some_iff.1 hu).1
        rw [← Go.Deep.add_add, hat j hj]
        exact hu
    have hg : ∃ g : Nat → OpG, ∀ i, i < len → (g i).ok W ∧ ∀ j u, (g i).cells[j]? = some u → W.cell? (a.add (i * 13 + j)) = some u := by
      haveI : Nonempty OpG := ⟨⟨0, 0, NdX.zero⟩⟩
      exact ⟨fun i => Classical.epsilon fun x => x.ok W ∧ ∀ j u, (OpG.cells x)[j]? = some u → W.cell? (a.add (i * 13 + j)) = some u, fun i hi => Classical.epsilon_spec (each i hi)⟩
    obtain ⟨g, hg⟩ := hg
    refine ⟨len, g, some a, cap, rfl, hl, hm, ?_, fun j hj => (hg j hj).1⟩
    by_cases h0 : len = 0
    · exact .inl h0
    · have c0 := (hg 0 (by omega)).2 0 _ rfl
      have hsp : a.spot = none := by
        have := World.cell?_spot c0
        simpa [Addr.add] using this
      obtain ⟨b, o, sp⟩ := a
      simp only at hsp
      subst hsp
      have hadd : ∀ k, Addr.add ⟨b, o, none⟩ k = ⟨b, o + k, none⟩ := by
        intro k
        unfold Addr.add
        split
        · subst k; rfl
        · rfl
      refine .inr ⟨b, o, rfl, ?_, fun i hi j u hu => ?_⟩
      · have := cell_lt c0
        rwa [hadd] at this
      · have := (hg i hi).2 j u hu
        rw [hadd, ← Nat.add_assoc] at this
        exact this
end Go.Proofs.Ytghboanmiggcnaa

namespace Go.Proofs.Ytghboanmiggcnaa
open Go.ChangeShapes Go.WideShapes Go.ChangeAt Go.RowKit
set_option linter.unusedVariables false
set_option maxRecDepth 100000

theorem groveRuns_lifted (os : Os) (started : os.Started) (H : Type) (enc : TypeId × Value → H) :
    ReturnsInHanded {} Try.checked os 3 .any (Rows.groveRunsSpec.pre6 enc Try.prog Try.f3 [] false) (Rows.groveRunsSpec.post enc Try.prog Try.f3 false true false false) :=
  lift (C := Try.checked) (s := Rows.groveRunsSpec) own (by kernel_rfl) Try.func3 laidOut rfl rfl Try.underlying4 (by kernel_rfl)
    (fun H ds hd => by match ds, hd with | [d1, d2], _ => rfl) os started H enc
    (ChangeSpec.witness6 (enc := enc) (C := Try.checked) false ⟨#[], #[.slice none 0 0, .int .i64 0], []⟩ 8 (by kernel_rfl) (by kernel_rfl) (by kernel_rfl) (by kernel_rfl))
    (fun W base args ds ps hval0 hA0 => by
      have hval : ∀ (j : Nat) t v, Try.f3.params[j]? = some t → args[j]? = some v → Value.okWide Try.prog W .any base t v := hval0
      have hA : DataW.TrodAll enc Try.prog W 0 (fun _ => true) true Try.f3.params.toList args.toList ds ps := hA0
      rw [Try.params3] at hA hval
      obtain ⟨v0, s0, d0, e0, p0, q0, g0, h0, r0⟩ := args_cons hA
      obtain ⟨v1, s1, d1, e1, p1, q1, rfl, h1, r1⟩ := args_cons r0
      obtain ⟨rfl, _, _⟩ := trodAll_nil r1
      obtain rfl : args = #[v0, v1] := by cases args; simp_all
      obtain ⟨n, Os, q, cap, rfl, c1, c2, HR, HO⟩ := ops22_of (hval 0 22 v0 rfl rfl) h0
      obtain ⟨look, rfl, _, _, wlook⟩ := open_int Try.underlying3 (hval 1 3 v1 rfl rfl) h1
      exact groveRuns q n cap Os c1 c2 look wlook W HR HO)

theorem groveRuns_holds : Rows.GroveRunsSaid :=
  OpenClaim.holds_of_wide 3 Try.f3 rfl rfl rfl rfl rfl rfl rfl ⟨rfl, rfl, rfl, rfl, rfl⟩ rfl rfl rfl rfl rfl (by kernel_rfl) Try.func3 (by kernel_rfl)
    (of_decide_eq_true (by kernel_rfl)) (by unfold Func.isWrapper; rw [if_neg (of_decide_eq_false (by kernel_rfl))]; exact ⟨rfl, rfl⟩)
    (fun os started H enc _ => groveRuns_lifted os started H enc)
#print axioms groveRuns_holds
end Go.Proofs.Ytghboanmiggcnaa
