/-
  A slice as it comes in: a row of elements of so many cells each.
-/
import Derived.Test.YtghboanmiggcnaaOpen
import Derived.Test.YtghboanmiggcnaaAidMore
import Derived.Deep.Slices
import Derived.Deep.Fields
import Derived.ChangeSame
import Derived.ChangeSlices
namespace Go.Proofs.Ytghboanmiggcnaa
open Go.ChangeShapes Go.WideShapes Go.ChangeAt Go.RowKit Go.Joins Go.Deep
set_option linter.unusedVariables false

/-- From block b's place o on lie n elements of sz cells each: f i are the i-th one's. -/
structure Row (w : World) (b o sz n : Nat) (f : Nat → List Value) : Prop where
  lt : b < w.heap.size
  cell : ∀ i, i < n → ∀ j v, (f i)[j]? = some v → w.cell? ⟨b, o + i * sz + j, none⟩ = some v

theorem Row.more {w w' : World} {b o sz n : Nat} {f : Nat → List Value} (h : Row w b o sz n f) (hb : Below w.heap.size w w') : Row w' b o sz n f :=
  ⟨Nat.lt_of_lt_of_le h.lt hb.size, fun i hi j v hv => (hb.cell (p := ⟨b, _, none⟩) h.lt).trans (h.cell i hi j v hv)⟩
theorem Row.below {w w' : World} {B b o sz n : Nat} {f : Nat → List Value} (h : Row w b o sz n f) (hb : Below B w w') (hlt : b < B) : Row w' b o sz n f :=
  ⟨Nat.lt_of_lt_of_le h.lt hb.size, fun i hi j v hv => (hb.cell (p := ⟨b, _, none⟩) hlt).trans (h.cell i hi j v hv)⟩
theorem Row.at0 {w : World} {b o sz n : Nat} {f : Nat → List Value} (h : Row w b o sz n f) {i : Nat} (hi : i < n) {v : Value} (hv : (f i)[0]? = some v) : w.cell? ⟨b, o + i * sz, none⟩ = some v := h.cell i hi 0 v hv
theorem Row.at1 {w : World} {b o sz n : Nat} {f : Nat → List Value} (h : Row w b o sz n f) {i : Nat} (hi : i < n) {v : Value} (hv : (f i)[1]? = some v) : w.cell? ⟨b, o + i * sz + 1, none⟩ = some v := h.cell i hi 1 v hv
theorem Row.at2 {w : World} {b o sz n : Nat} {f : Nat → List Value} (h : Row w b o sz n f) {i : Nat} (hi : i < n) {v : Value} (hv : (f i)[2]? = some v) : w.cell? ⟨b, o + i * sz + 2, none⟩ = some v := h.cell i hi 2 v hv
theorem Row.at3 {w : World} {b o sz n : Nat} {f : Nat → List Value} (h : Row w b o sz n f) {i : Nat} (hi : i < n) {v : Value} (hv : (f i)[3]? = some v) : w.cell? ⟨b, o + i * sz + 3, none⟩ = some v := h.cell i hi 3 v hv
theorem Row.drop {w : World} {b o sz n : Nat} {f : Nat → List Value} (h : Row w b o sz n f) (k : Nat) : Row w b (o + k * sz) sz (n - k) (fun i => f (k + i)) :=
  ⟨h.lt, fun i hi j v hv => by
    have := h.cell (k + i) (by omega) j v hv
    rw [Nat.add_mul, ← Nat.add_assoc] at this
    exact this⟩
theorem Row.take {w : World} {b o sz n : Nat} {f : Nat → List Value} (h : Row w b o sz n f) {m : Nat} (hm : m ≤ n) : Row w b o sz m f :=
  ⟨h.lt, fun i hi j v hv => h.cell i (by omega) j v hv⟩

/-- A slice of n such elements. -/
def Sl (w : World) (sz : Nat) (v : Value) (n : Nat) (f : Nat → List Value) : Prop :=
  ∃ p cap, v = .slice p n cap ∧ n ≤ cap ∧ cap ≤ maxLen ∧ (n = 0 ∨ ∃ b o, p = some ⟨b, o, none⟩ ∧ Row w b o sz n f)

theorem Sl.more {w w' : World} {sz n : Nat} {v : Value} {f : Nat → List Value} (h : Sl w sz v n f) (hb : Below w.heap.size w w') : Sl w' sz v n f := by
  obtain ⟨p, cap, h1, h2, h3, h4⟩ := h
  exact ⟨p, cap, h1, h2, h3, h4.imp id fun ⟨b, o, e, r⟩ => ⟨b, o, e, r.more hb⟩⟩

/-- What the walk asks of a slice: it has nothing, or a row. -/
theorem Sl.ways {w : World} {sz n : Nat} {v : Value} {f : Nat → List Value} (h : Sl w sz v n f) :
    (n = 0 ∧ ∃ p cap, v = .slice p 0 cap ∧ cap ≤ maxLen) ∨ (1 ≤ n ∧ ∃ b o cap, v = .slice (some ⟨b, o, none⟩) n cap ∧ n ≤ cap ∧ cap ≤ maxLen ∧ Row w b o sz n f) := by
  obtain ⟨p, cap, h1, h2, h3, h4⟩ := h
  by_cases h0 : n = 0
  · subst h0; exact .inl ⟨rfl, p, cap, h1, h3⟩
  · obtain ⟨b, o, rfl, r⟩ := h4.resolve_left h0
    exact .inr ⟨by omega, b, o, cap, h1, h2, h3, r⟩

/-- The same of a slice's address: it has nothing, or it is there. -/
def RowP (w : World) (p : Option Addr) (sz n : Nat) (f : Nat → List Value) : Prop := n = 0 ∨ ∃ b o, p = some ⟨b, o, none⟩ ∧ Row w b o sz n f
theorem RowP.more {w w' : World} {p : Option Addr} {sz n : Nat} {f : Nat → List Value} (h : RowP w p sz n f) (hb : Below w.heap.size w w') : RowP w' p sz n f :=
  h.imp id fun ⟨b, o, e, r⟩ => ⟨b, o, e, r.more hb⟩
theorem RowP.row {w : World} {p : Option Addr} {sz n : Nat} {f : Nat → List Value} (h : RowP w p sz n f) (hn : n ≠ 0) : ∃ b o, p = some ⟨b, o, none⟩ ∧ Row w b o sz n f := h.resolve_left hn
theorem RowP.take {w : World} {p : Option Addr} {sz n m : Nat} {f : Nat → List Value} (h : RowP w p sz n f) (hm : m ≤ n) : RowP w p sz m f := by
  rcases h with h | ⟨b, o, e, r⟩
  · exact .inl (by omega)
  · exact .inr ⟨b, o, e, r.take hm⟩
theorem Sl.open {w : World} {sz n : Nat} {v : Value} {f : Nat → List Value} (h : Sl w sz v n f) : ∃ p cap, v = .slice p n cap ∧ n ≤ cap ∧ cap ≤ maxLen ∧ RowP w p sz n f := h

/-- A point. -/
structure Pt where
  id : Int
  x : Int
  y : Int
  d : ByteArray
def Pt.ok (p : Pt) : Prop := -9223372036854775808 ≤ p.id ∧ p.id ≤ 9223372036854775807 ∧ 0 ≤ p.x ∧ p.x ≤ 4294967295 ∧ 0 ≤ p.y ∧ p.y ≤ 4294967295 ∧ p.d.size ≤ maxLen
def pcells (p : Pt) : List Value := [.int .i64 p.id, .int .u32 p.x, .int .u32 p.y, .string p.d]
abbrev pval (p : Pt) : Value := .agg #[.int .i64 p.id, .int .u32 p.x, .int .u32 p.y, .string p.d]

section
variable {H : Type} {enc : TypeId × Value → H} {P : Program} {w : World} {base : Nat} {spare : Nat → Bool} {held : Bool}
theorem open_slice_fields {t e : TypeId} {fs : Array Field} {fuel : Nat} {cs : List Value} {x : DataW H × List MemPlace} (ht : P.underlying t = some (.slice e)) (he : P.underlying e = some (.struct fs))
    (hone : oneCellFields P fs = true) (hC : P.cellsOf e = fs.size) (h : DataW.trod enc P w base spare held fuel t cs = some x) :
    cs = [.slice none 0 0] ∨
    ∃ (a : Addr) (len cap m : Nat), cs = [.slice (some a) len cap] ∧ len ≤ cap ∧ cap ≤ maxLen ∧ m = (if spare a.block then cap else len) ∧
      ∀ i, i < m → ∀ (j : Nat) (f : Field), fs[j]? = some f → ∃ (v : Value) (n : Nat) (y : DataW H × List MemPlace), w.cell? (a.add (i * fs.size + j)) = some v ∧ DataW.trod enc P w base spare held n f.type [v] = some y := by
  rcases open_slice ht h with ⟨h0, _⟩ | ⟨a, len, cap, m, n, D, Pl, hcs, hb, hl, hm, hmm, hx, hi⟩
  · exact .inl h0
  · refine .inr ⟨a, len, cap, m, hcs, hl, hm, hmm, fun i him j f hj => ?_⟩
    obtain ⟨cs', hc, ht'⟩ := hi i him
    rw [hC] at hc
    obtain ⟨ys, n', hn', hy, hlen, hyl, hf⟩ := DataW.trod_struct he ht'
    obtain ⟨_, hcl, hat⟩ := World.cells?_some hc
    obtain ⟨ho, hk⟩ := hone_of hone j f hj
    have hjl : j < fs.size := (Array.getElem?_eq_some_iff.1 hj).1
    have hcell := hat j hjl
    have hv : cs'[j]? = some (cs'[j]'(by omega)) := List.getElem?_eq_getElem (by omega)
    have h1 := hf j f hj
    rw [ho, hk] at h1
    have hone' : (cs'.drop j).take 1 = [cs'[j]'(by omega)] := by
      rw [List.drop_eq_getElem_cons (by omega)]
      rfl
    rw [hone'] at h1
    have hys : ys[j]? = some (ys[j]'(by omega)) := List.getElem?_eq_getElem (by omega)
    refine ⟨_, n', _, ?_, h1.trans hys⟩
    rw [← Go.Deep.add_add, hcell, hv]

theorem cell_lt {a : Addr} {v : Value} (h : w.cell? a = some v) : a.block < w.heap.size := by
  unfold World.cell? at h
  by_cases hb : a.block < w.heap.size
  · exact hb
  · exfalso
    have : w.heap[a.block]? = none := by simp; omega
    rw [this] at h
    simp at h

/-- A slice of structs of one-cell fields that comes in. -/
theorem sl_of {t e : TypeId} {fs : Array Field} {v : Value} {d : DataW H} {p : List MemPlace} {r : Reach} {b0 : Nat} (ht : P.underlying t = some (.slice e)) (he : P.underlying e = some (.struct fs))
    (hone : oneCellFields P fs = true) (hC : P.cellsOf e = fs.size) (hpos : 0 < fs.size) (hval : Value.okWide P w r b0 t v) (h : DataW.Trod enc P w base spare held t v d p) :
    ∃ (n : Nat) (F : Nat → Nat → Value), (∃ p cap, v = .slice p n cap ∧ n ≤ cap ∧ cap ≤ maxLen ∧ (n = 0 ∨ ∃ b o, p = some ⟨b, o, none⟩ ∧ b < w.heap.size ∧ ∀ i, i < n → ∀ j, j < fs.size → w.cell? ⟨b, o + i * fs.size + j, none⟩ = some (F i j))) ∧
      ∀ i, i < n → ∀ j f, fs[j]? = some f → ∃ m y, DataW.trod enc P w base spare held m f.type [F i j] = some y := by
  obtain ⟨fuel, hf⟩ := h
  obtain ⟨a0, len, cap, rfl⟩ := okWide_slice ht hval
  rcases open_slice_fields ht he hone hC hf with hcs | ⟨a, len', cap', m, hcs, hl, hm, hmm, hi⟩
  · simp [Value.cells] at hcs
    obtain ⟨rfl, rfl, rfl⟩ := hcs
    exact ⟨0, fun _ _ => undef, ⟨none, 0, rfl, by omega, by unfold maxLen; omega, .inl rfl⟩, fun i hi => absurd hi (Nat.not_lt_zero _)⟩
  · simp [Value.cells] at hcs
    obtain ⟨rfl, rfl, rfl⟩ := hcs
    have hlm : len ≤ m := by rw [hmm]; split <;> omega
    by_cases h0 : len = 0
    · subst h0
      exact ⟨0, fun _ _ => undef, ⟨some a, cap, rfl, by omega, hm, .inl rfl⟩, fun i hi => absurd hi (Nat.not_lt_zero _)⟩
    · have hex : ∀ i j, i < len → j < fs.size → ∃ v, w.cell? (a.add (i * fs.size + j)) = some v ∧ ∀ f, fs[j]? = some f → ∃ m y, DataW.trod enc P w base spare held m f.type [v] = some y := by
        intro i j h1 h2
        obtain ⟨v, n, y, hc, hy⟩ := hi i (by omega) j fs[j] (Array.getElem?_eq_getElem h2)
        refine ⟨v, hc, fun f hfj => ?_⟩
        rw [Array.getElem?_eq_getElem h2] at hfj
        cases hfj
        exact ⟨n, y, hy⟩
      have hexF : ∃ F : Nat → Nat → Value, ∀ i j, i < len → j < fs.size → w.cell? (a.add (i * fs.size + j)) = some (F i j) ∧ ∀ f, fs[j]? = some f → ∃ m y, DataW.trod enc P w base spare held m f.type [F i j] = some y := by
        haveI : Nonempty Value := ⟨undef⟩
        exact ⟨fun i j => Classical.epsilon fun v => w.cell? (a.add (i * fs.size + j)) = some v ∧ ∀ f, fs[j]? = some f → ∃ m y, DataW.trod enc P w base spare held m f.type [v] = some y, fun i j h1 h2 => Classical.epsilon_spec (hex i j h1 h2)⟩
      obtain ⟨F, hF⟩ := hexF
      have c0 := (hF 0 0 (by omega) hpos).1
      have hsp : a.spot = none := by
        have := World.cell?_spot c0
        simpa [Addr.add] using this
      obtain ⟨b, o, sp⟩ := a
      simp only at hsp
      subst hsp
      have hadd : ∀ k, Addr.add ⟨b, o, none⟩ k = ⟨b, o + k, none⟩ := by
        intro k
        unfold Addr.add
        split
        · subst k; rfl
        · rfl
      refine ⟨len, F, ⟨_, cap, rfl, hl, hm, .inr ⟨b, o, rfl, ?_, fun i h1 j h2 => ?_⟩⟩, fun i h1 j f hfj => ?_⟩
      · have := cell_lt c0
        rwa [hadd] at this
      · have := (hF i j h1 h2).1
        rw [hadd, ← Nat.add_assoc] at this
        exact this
      · exact (hF i j h1 (Array.getElem?_eq_some_iff.1 hfj).1).2 f hfj
end

set_option maxRecDepth 100000 in
/-- A slice of points that comes in. -/
theorem pts_of {H : Type} {enc : TypeId × Value → H} {W : World} {b0 : Nat} {v : Value} {d : DataW H} {p : List MemPlace} (hv : Value.okWide Try.prog W .any b0 26 v) (h : DataW.Trod enc Try.prog W 0 (fun _ => true) true 26 v d p) :
    ∃ (n : Nat) (f : Nat → Pt), (∀ i, i < n → (f i).ok) ∧ Sl W 4 v n (fun i => pcells (f i)) := by
  obtain ⟨n, F, ⟨p, cap, hv, h1, h2, h3⟩, hF⟩ := sl_of Try.underlying26 Try.underlying53 (by kernel_rfl) (by kernel_rfl) (by decide) hv h
  have each : ∀ i, i < n → ∃ q : Pt, q.ok ∧ [F i 0, F i 1, F i 2, F i 3] = pcells q := by
    intro i hi
    obtain ⟨m0, y0, t0⟩ := hF i hi 0 _ rfl
    obtain ⟨m1, y1, t1⟩ := hF i hi 1 _ rfl
    obtain ⟨m2, y2, t2⟩ := hF i hi 2 _ rfl
    obtain ⟨m3, y3, t3⟩ := hF i hi 3 _ rfl
    obtain ⟨a, e0, _, w0⟩ := DataW.trod_int Try.underlying3 t0
    obtain ⟨b, e1, _, w1⟩ := DataW.trod_int Try.underlying51 t1
    obtain ⟨c, e2, _, w2⟩ := DataW.trod_int Try.underlying51 t2
    obtain ⟨s, e3, _, w3⟩ := DataW.trod_string Try.underlying9 t3
    simp at e0 e1 e2 e3
    have g0 := bounds_i64 w0
    have g1 := bounds_u32 w1
    have g2 := bounds_u32 w2
    exact ⟨⟨a, b, c, s⟩, ⟨g0.1, g0.2, g1.1, g1.2, g2.1, g2.2, w3⟩, by rw [e0, e1, e2, e3]; rfl⟩
  have hg : ∃ g : Nat → Pt, ∀ i, i < n → (g i).ok ∧ [F i 0, F i 1, F i 2, F i 3] = pcells (g i) := by
    haveI : Nonempty Pt := ⟨⟨0, 0, 0, ByteArray.empty⟩⟩
    exact ⟨fun i => Classical.epsilon fun q => q.ok ∧ [F i 0, F i 1, F i 2, F i 3] = pcells q, fun i hi => Classical.epsilon_spec (each i hi)⟩
  obtain ⟨g, hg⟩ := hg
  refine ⟨n, g, fun i hi => (hg i hi).1, p, cap, hv, h1, h2, h3.imp id fun ⟨b, o, e, hlt, hc⟩ => ⟨b, o, e, hlt, fun i hi j v hv => ?_⟩⟩
  rw [← (hg i hi).2] at hv
  match j, hv with
  | 0, hv => simp at hv; subst hv; exact hc i hi 0 (by decide)
  | 1, hv => simp at hv; subst hv; exact hc i hi 1 (by decide)
  | 2, hv => simp at hv; subst hv; exact hc i hi 2 (by decide)
  | 3, hv => simp at hv; subst hv; exact hc i hi 3 (by decide)

set_option maxRecDepth 100000 in
/-- A slice of whole numbers that comes in. -/
theorem ints_of {H : Type} {enc : TypeId × Value → H} {W : World} {b0 : Nat} {v : Value} {d : DataW H} {p : List MemPlace} (hv : Value.okWide Try.prog W .any b0 38 v) (h : DataW.Trod enc Try.prog W 0 (fun _ => true) true 38 v d p) :
    ∃ (n : Nat) (g : Nat → Int), (∀ i, i < n → -9223372036854775808 ≤ g i ∧ g i ≤ 9223372036854775807) ∧ Sl W 1 v n (fun i => [.int .i64 (g i)]) := by
  obtain ⟨fuel, hf⟩ := h
  obtain ⟨a0, len, cap, rfl⟩ := okWide_slice Try.underlying38 hv
  rcases open_ints Try.underlying38 Try.underlying3 (by kernel_rfl) hf with ⟨hcs, _⟩ | ⟨a, len', cap', zs, hcs, _, hl, hm, hz, _, hcell, hwz⟩
  · simp [Value.cells] at hcs
    obtain ⟨rfl, rfl, rfl⟩ := hcs
    exact ⟨0, fun _ => 0, fun i hi => absurd hi (Nat.not_lt_zero _), none, 0, rfl, Nat.le_refl _, Nat.zero_le _, .inl rfl⟩
  · simp [Value.cells] at hcs
    obtain ⟨rfl, rfl, rfl⟩ := hcs
    simp only [if_true] at hz
    refine ⟨len, fun i => zs.getD i 0, fun i hi => ?_, some a, cap, rfl, hl, hm, ?_⟩
    · have hi' : i < zs.length := by omega
      have e : zs.getD i 0 = zs[i] := by simp [hi']
      have := bounds_i64 (hwz zs[i] (List.getElem_mem hi'))
      simp only [e]
      exact this
    · by_cases h0 : len = 0
      · exact .inl h0
      · have c0 := hcell 0 (by omega)
        have hsp : a.spot = none := by
          have := World.cell?_spot c0
          simpa [Addr.add] using this
        obtain ⟨b, o, sp⟩ := a
        simp only at hsp
        subst hsp
        have hadd : ∀ k, Addr.add ⟨b, o, none⟩ k = ⟨b, o + k, none⟩ := by
          intro k
          unfold Addr.add
          split
          · subst k; rfl
          · rfl
        refine .inr ⟨b, o, rfl, ?_, fun i hi j v hv => ?_⟩
        · have := cell_lt c0
          rwa [hadd] at this
        · have hj : j = 0 := by
            rcases j with _ | j
            · rfl
            · simp at hv
          subst hj
          simp at hv
          subst hv
          have := hcell i (by omega)
          rw [hadd] at this
          rw [Nat.mul_one, Nat.add_zero]
          simpa using this

end Go.Proofs.Ytghboanmiggcnaa
