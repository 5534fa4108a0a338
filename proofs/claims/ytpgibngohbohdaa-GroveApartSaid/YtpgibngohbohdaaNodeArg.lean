/-
  What an argument that comes in is: a node.
-/
import Derived.Test.YtpgibngohbohdaaNodeDef
import Derived.Test.YtpgibngohbohdaaLiftSized
import Derived.Test.YtpgibngohbohdaaOctArg
import Derived.Laws.IdiomArrays
namespace Go.Proofs.Ytpgibngohbohdaa
open Go.ChangeShapes Go.WideShapes Go.ChangeAt Go.RowKit Go.Joins Go.Deep
set_option linter.unusedVariables false

section
variable {H : Type} {enc : TypeId × Value → H} {P : Program} {w : World} {base : Nat} {spare : Nat → Bool} {held : Bool}
/-- A slice of structs of one-cell fields in a field. -/
theorem sl_in8 {t e : TypeId} {fs : Array Field} {v : Value} {fuel : Nat} {x : DataW H × List MemPlace} (ht : P.underlying t = some (.slice e)) (he : P.underlying e = some (.struct fs))
    (hone : oneCellFields P fs = true) (hC : P.cellsOf e = fs.size) (hpos : 0 < fs.size) (h : DataW.trod enc P w base spare held fuel t [v] = some x) :
    ∃ (n : Nat) (F : Nat → Nat → Value), (∃ p cap, v = .slice p n cap ∧ n ≤ cap ∧ cap ≤ maxLen ∧ (n = 0 ∨ ∃ b o, p = some ⟨b, o, none⟩ ∧ b < w.heap.size ∧ ∀ i, i < n → ∀ j, j < fs.size → w.cell? ⟨b, o + i * fs.size + j, none⟩ = some (F i j))) ∧
      (∀ i, i < n → ∀ j f, fs[j]? = some f → ∃ m y, DataW.trod enc P w base spare held m f.type [F i j] = some y) ∧ (n = 0 ∨ ∃ el sp, x.1 = .slice el sp ∧ el.length = n) := by
  rcases open_slice_fields ht he hone hC h with hcs | ⟨a, len, cap, m, hcs, hl, hm, hmm, hi⟩
  · simp at hcs
    subst hcs
    exact ⟨0, fun _ _ => undef, ⟨none, 0, rfl, by omega, by unfold maxLen; omega, .inl rfl⟩, fun i hi => absurd hi (Nat.not_lt_zero _), .inl rfl⟩
  · simp at hcs
    subst hcs
    have hx : ∃ el sp, x.1 = .slice el sp ∧ el.length = len := by
      rcases open_slice ht h with ⟨h0, _⟩ | ⟨a', len', cap', m', n', D, Pl, hcs', _, _, _, _, hx, _⟩
      · simp at h0
      · simp at hcs'
        obtain ⟨_, rfl, _⟩ := hcs'
        exact ⟨_, _, by rw [hx], by simp⟩
    have hlm : len ≤ m := by rw [hmm]; split <;> omega
    by_cases h0 : len = 0
    · subst h0
      exact ⟨0, fun _ _ => undef, ⟨some a, cap, rfl, by omega, hm, .inl rfl⟩, fun i hi => absurd hi (Nat.not_lt_zero _), .inl rfl⟩
    · have hex : ∀ i j, i < len → j < fs.size → ∃ v, w.cell? (a.add (i * fs.size + j)) = some v ∧ ∀ f, fs[j]? = some f → ∃ m y, DataW.trod enc P w base spare held m f.type [v] = some y := by
        intro i j h1 h2
        obtain ⟨v, n, y, hc, hy⟩ := hi i (by omega) j fs[j] (Array.getElem?_eq_getElem h2)
        refine ⟨v, hc, fun f hfj => ?_⟩
        rw [Array.getElem?_eq_getElem h2] at hfj
        cases hfj
        exact ⟨n, y, hy⟩
      have hexF : ∃ F : Nat → Nat → Value, ∀ i j, i < len → j < fs.size → w.cell? (a.add (i * fs.size + j)) = some (F i j) ∧ ∀ f, fs[j]? = some f → ∃ m y, DataW.trod enc P w base spare held m f.type [F i j] = some y := by
        haveI : Nonempty Value := ⟨undef⟩
        exact ⟨fun i j => Classical.epsilon fun v => w.cell? (a.add (i * fs.size + j)) = some v ∧ ∀ f, fs[j]? = some f → ∃ m y, DataW.trod enc P w base spare held m f.type [v] = some y, fun i j h1 h2 => Classical.epsilon_spec (hex i j h1 h2)⟩
      obtain ⟨F, hF⟩ := hexF
      have c0 := (hF 0 0 (by omega) hpos).1
      have hsp : a.spot = none := by
        have := World.cell?_spot c0
        simpa [Addr.add] using this
      obtain ⟨b, o, sp⟩ := a
      simp only at hsp
      subst hsp
      have hadd : ∀ k, Addr.add ⟨b, o, none⟩ k = ⟨b, o + k, none⟩ := by
        intro k
        unfold Addr.add
        split
        · subst k; rfl
        · rfl
      refine ⟨len, F, ⟨_, cap, rfl, hl, hm, .inr ⟨b, o, rfl, ?_, fun i h1 j h2 => ?_⟩⟩, fun i h1 j f hfj => ?_, .inr hx⟩
      · have := cell_lt c0
        rwa [hadd] at this
      · have := (hF i j h1 h2).1
        rw [hadd, ← Nat.add_assoc] at this
        exact this
      · exact (hF i j h1 (Array.getElem?_eq_some_iff.1 hfj).1).2 f hfj
end

set_option maxRecDepth 100000 in
/-- A node that comes in. -/
theorem nd_of {H : Type} {enc : TypeId × Value → H} {W : World} {b0 : Nat} {v : Value} {d : DataW H} {p : List MemPlace} (hv : Value.okWide Try.prog W .any b0 56 v) (h : DataW.Trod enc Try.prog W 0 (fun _ => true) true 56 v d p) :
    ∃ (lf : Bool) (q : Option Addr) (n cap : Nat) (f : Nat → Pt) (nx : Int) (k c : Nat → Int), v = ndval lf (.slice q n cap) nx k c ∧ n ≤ cap ∧ cap ≤ maxLen ∧ RowP W q 4 n (fun i => pcells (f i)) ∧ (∀ i, i < n → (f i).ok) ∧ ∀ i, i < 4 → -9223372036854775808 ≤ c i ∧ c i ≤ 9223372036854775807 := by
  obtain ⟨cs, rfl, hsz⟩ := okWide_struct Try.underlying56 hv
  obtain ⟨fuel, hf⟩ := h
  obtain ⟨xs, m, _, hx, hl, hxl, hfield⟩ := DataW.trod_struct Try.underlying56 hf
  have hC : Try.prog.cellsOf 56 = 11 := by kernel_rfl
  have hcb : Try.prog.cellsOf 4 = 1 := by kernel_rfl
  have hcs : Try.prog.cellsOf 53 = 1 := by kernel_rfl
  have hci : Try.prog.cellsOf 3 = 1 := by kernel_rfl
  have hca : Try.prog.cellsOf 54 = 4 := by kernel_rfl
  have hl' : cs.toList.length = 11 := by rw [← hC]; exact hl
  have hxl' : xs.length = 5 := hxl
  obtain ⟨l⟩ := cs
  match l, hl', xs, hxl' with
  | [e0, e1, e2, k0, k1, k2, k3, c0, c1, c2, c3], _, [y0, y1, y2, y3, y4], _ =>
    have h0 := hfield 0 _ rfl
    have h1 := hfield 1 _ rfl
    have h2 := hfield 2 _ rfl
    have h3 := hfield 3 _ rfl
    have h4 := hfield 4 _ rfl
    simp [Value.cells, hcb, hcs, hci, hca] at h0 h1 h2 h3 h4
    obtain ⟨lf, r0, _⟩ := DataW.trod_bool Try.underlying4 h0
    obtain ⟨nx, r2, _, _⟩ := DataW.trod_int Try.underlying3 h2
    obtain ⟨n, F, ⟨q, cap, hcv, g1, g2, g3⟩, hF, _⟩ := sl_in8 Try.underlying53 Try.underlying75 (by kernel_rfl) (by kernel_rfl) (by decide) h1
    obtain ⟨_, _, _, _, _, _, a0, a1, a2, a3⟩ := trod_array4 Try.underlying54 hci h3
    obtain ⟨_, _, _, _, _, _, b0', b1, b2, b3⟩ := trod_array4 Try.underlying54 hci h4
    obtain ⟨z0, s0, _, _⟩ := DataW.trod_int Try.underlying3 a0
    obtain ⟨z1, s1, _, _⟩ := DataW.trod_int Try.underlying3 a1
    obtain ⟨z2, s2, _, _⟩ := DataW.trod_int Try.underlying3 a2
    obtain ⟨z3, s3, _, _⟩ := DataW.trod_int Try.underlying3 a3
    obtain ⟨u0, t0, _, w0⟩ := DataW.trod_int Try.underlying3 b0'
    obtain ⟨u1, t1, _, w1⟩ := DataW.trod_int Try.underlying3 b1
    obtain ⟨u2, t2, _, w2⟩ := DataW.trod_int Try.underlying3 b2
    obtain ⟨u3, t3, _, w3⟩ := DataW.trod_int Try.underlying3 b3
    simp at r0 r2 s0 s1 s2 s3 t0 t1 t2 t3
    subst r0 r2 s0 s1 s2 s3 t0 t1 t2 t3 hcv
    have each : ∀ i, i < n → ∃ q : Pt, q.ok ∧ [F i 0, F i 1, F i 2, F i 3] = pcells q := by
      intro i hi
      obtain ⟨m0, y0, t0⟩ := hF i hi 0 _ rfl
      obtain ⟨m1, y1, t1⟩ := hF i hi 1 _ rfl
      obtain ⟨m2, y2, t2⟩ := hF i hi 2 _ rfl
      obtain ⟨m3, y3, t3⟩ := hF i hi 3 _ rfl
      obtain ⟨a, e0, _, w0⟩ := DataW.trod_int Try.underlying3 t0
      obtain ⟨b, e1, _, w1⟩ := DataW.trod_int Try.underlying73 t1
      obtain ⟨c, e2, _, w2⟩ := DataW.trod_int Try.underlying73 t2
      obtain ⟨s, e3, _, w3⟩ := DataW.trod_string Try.underlying9 t3
      simp at e0 e1 e2 e3
      have g0 := bounds_i64 w0
      have g1 := bounds_u32 w1
      have g2 := bounds_u32 w2
      exact ⟨⟨a, b, c, s⟩, ⟨g0.1, g0.2, g1.1, g1.2, g2.1, g2.2, w3⟩, by rw [e0, e1, e2, e3]; rfl⟩
    have hg : ∃ g : Nat → Pt, ∀ i, i < n → (g i).ok ∧ [F i 0, F i 1, F i 2, F i 3] = pcells (g i) := by
      haveI : Nonempty Pt := ⟨⟨0, 0, 0, ByteArray.empty⟩⟩
      exact ⟨fun i => Classical.epsilon fun q => q.ok ∧ [F i 0, F i 1, F i 2, F i 3] = pcells q, fun i hi => Classical.epsilon_spec (each i hi)⟩
    obtain ⟨g, hg⟩ := hg
    refine ⟨lf, q, n, cap, g, nx, fun i => if i = 0 then z0 else if i = 1 then z1 else if i = 2 then z2 else z3, fun i => if i = 0 then u0 else if i = 1 then u1 else if i = 2 then u2 else u3, rfl, g1, g2, g3.imp id fun ⟨b, o, e, hlt, hc⟩ => ⟨b, o, e, hlt, fun i hi j v hv => ?row⟩, fun i hi => (hg i hi).1, fun i hi => ?bd⟩
    case row =>
      rw [← (hg i hi).2] at hv
      match j, hv with
      | 0, hv => simp at hv; subst hv; exact hc i hi 0 (by decide)
      | 1, hv => simp at hv; subst hv; exact hc i hi 1 (by decide)
      | 2, hv => simp at hv; subst hv; exact hc i hi 2 (by decide)
      | 3, hv => simp at hv; subst hv; exact hc i hi 3 (by decide)
    case bd =>
      match i, hi with
      | 0, _ => exact bounds_i64 w0
      | 1, _ => exact bounds_i64 w1
      | 2, _ => exact bounds_i64 w2
      | 3, _ => exact bounds_i64 w3
end Go.Proofs.Ytpgibngohbohdaa
