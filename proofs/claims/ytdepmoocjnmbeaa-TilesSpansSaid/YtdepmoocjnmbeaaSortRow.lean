/-
  slices.SortFunc of structs, at whatever length: what the library's contract says, in this repo's words (rows, Sole).
-/
import Derived.Test.YtdepmoocjnmbeaaOwnRow
import Derived.Shelf.SlSortCmp.WholeK
namespace Go.Proofs.Ytdepmoocjnmbeaa
open Go.RowKit
set_option linter.unusedVariables false
set_option linter.unusedSimpArgs false

theorem sole_sort {α : Type} [Inhabited α] (enc : α → List Value) (k : Nat) (w : World) (blk off n : Nat) (d : Array α) (os : Array Obj) : Sole (fun j => j = blk) w (Go.Proofs.sortWorldK enc k w blk off n d os) := by
  refine ⟨rfl, rfl, rfl, ?_, fun j hj hn => ?_⟩
  · simp [Go.Proofs.sortWorldK, Go.Sort.grow, Go.Sort.putRowK, Go.Sort.putRow, Go.Sort.mapBlock, Go.Sort.ahead]
  · have hj' : j < ((Go.Sort.putRowK enc k (Go.Sort.ahead w n) blk off d).heap).size := by
      simp [Go.Sort.putRowK, Go.Sort.putRow, Go.Sort.mapBlock, Go.Sort.ahead]; exact hj
    show ((Go.Sort.putRowK enc k (Go.Sort.ahead w n) blk off d).heap ++ os)[j]? = _
    rw [Array.getElem?_append_left hj']
    simp [Go.Sort.putRowK, Go.Sort.putRow, Go.Sort.mapBlock, Go.Sort.ahead, Array.getElem?_modify]
    intro e
    exact absurd e.symm hn
theorem row_holds {α : Type} [Inhabited α] {enc : α → List Value} {k : Nat} (hk : ∀ x, (enc x).length = k) {w : World} {blk off : Nat} {d : Array α} (hb : blk < w.heap.size) (h : Go.Sort.HoldsK enc k w blk off d) : Row w blk off k d.size (fun i => enc d[i]!) :=
  ⟨hb, fun i hi j v hv => by
    have hj : j < k := by rw [← hk d[i]!]; exact (List.getElem?_eq_some_iff.1 hv).1
    rw [(h.cell hi hj).1]
    obtain ⟨h1, h2⟩ := List.getElem?_eq_some_iff.1 hv
    simp [h1, h2]⟩
theorem holds_own {α : Type} [Inhabited α] {T : RowT α} (K : T.Ok) {w : World} {base b cap : Nat} {L : List α} (h : RowOwn T w base (.slice (some ⟨b, 0, none⟩) L.length cap) L) : Go.Sort.HoldsK T.cells T.sz w b 0 L.toArray := by
  intro j hj
  have hj' : j < L.length * T.sz := by simpa using hj
  have hp := K.pos
  have hi : j / T.sz < L.length := (Nat.div_lt_iff_lt_mul hp).2 hj'
  have hm : j % T.sz < T.sz := Nat.mod_lt _ hp
  have hg := flatR_at K L j hj'
  have hm' : j % T.sz < (T.cells L[j / T.sz]).length := by rw [K.len]; exact hm
  have hcl : (T.cells L[j / T.sz])[j % T.sz]? = some ((T.cells L[j / T.sz])[j % T.sz]) := List.getElem?_eq_getElem hm'
  rw [atR_eq L _ hi, hcl] at hg
  have hc := h.cells (g := b) rfl j _ hg
  rw [addr_plus] at hc
  refine ⟨?_, ?_⟩
  · rw [hc, Go.Sort.get_flatK _ _ _ _ (by simpa using hj')]
    have e : (L.toArray[j / T.sz]!) = L[j / T.sz] := by simp [hi]
    rw [e]
    simp [hm']
  · rcases h.2 with ⟨hv, _⟩ | ⟨g', cap', cur, hv, hb, hg', h1, h2, h3, h4⟩
    · simp at hv
    · simp at hv
      obtain ⟨rfl, rfl⟩ := hv
      simp [World.frozen?, hg']

/-- slices.SortFunc of a row of the call's own. -/
theorem sort_row {α : Type} [Inhabited α] {T : RowT α} (K : T.Ok) {ρ : Go.Shelf.Ren} (Y : Go.Proofs.SlLaysF0.n6 Try.prog ρ) (aE : ∀ w, (isAgg (ρ.t 24)).run Try.prog w = .ok true w) (zE : ∀ w, (sizeOf (ρ.t 24)).run Try.prog w = .ok T.sz w)
    (cf : α → α → Int) (hO : Go.Sort.SWO (Go.Proofs.ltOf cf)) (g : Nat) (eg : ∀ args w, (callFunc g args).run Try.prog w = .ok (.enter g args) w)
    (hcmp : ∀ x y W, Calls Try.prog g #[.agg (T.cells x).toArray, .agg (T.cells y).toArray] W fun e w' => e = .returned (.int .i64 (cf x y)) ∧ ∃ q os', w' = Go.Sort.grow (W.drewN q) os')
    (w : World) (base b cap : Nat) (L : List α) (hl : L.length < 4611686018427387904) (h : RowOwn T w base (.slice (some ⟨b, 0, none⟩) L.length cap) L) :
    Calls Try.prog (ρ.f 6) #[.slice (some ⟨b, 0, none⟩) L.length cap, .func (.func g) #[] #[]] w fun e w' => e = .returned (.tuple #[]) ∧ ∃ L' : List α, L'.Perm L ∧ L'.Pairwise (fun x y => Go.Proofs.ltOf cf y x = false) ∧ RowOf T w' (some ⟨b, 0, none⟩) L' ∧ Sole (fun j => j = b) w w' := by
  have hb := (h.within b rfl).2
  have hH := holds_own K h
  have hc := Go.Proofs.AnyQ.slices_SortFunc Y T.sz aE zE T.cells K.len (fun x v hv => K.one x v hv) cf hO g #[] b 0 cap L.toArray w eg (fun m os dk hs x y => hcmp x y _) hH hb (by simpa using hl)
  have e : L.toArray.size = L.length := by simp
  rw [e] at hc
  refine hc.mono ?_
  rintro e' w' ⟨rfl, d', n, os, hp, hs, rfl⟩
  have hsz : d'.size = L.length := by have := hp.1; simpa using this
  have hH' : Go.Sort.HoldsK T.cells T.sz (Go.Proofs.sortWorldK T.cells T.sz w b 0 n d' os) b 0 d' :=
    Go.Sort.holdsK_grow T.cells T.sz _ os b 0 d' (by simp [Go.Sort.putRowK, Go.Sort.putRow, Go.Sort.mapBlock, Go.Sort.ahead]; exact hb) (Go.Sort.holdsK_putRowK T.cells T.sz _ b 0 L.toArray d' (Go.Sort.holdsK_ahead T.cells T.sz w n b 0 _ hH) (by rw [hsz]; simp))
  have hso := sole_sort T.cells T.sz w b 0 n d' os
  have R := row_holds K.len (Nat.lt_of_lt_of_le hb hso.size) hH'
  refine ⟨rfl, d'.toList, ?_, ?_, ?_, hso⟩
  · have := hp.2.2
    rw [Array.extract_eq_self_of_le (by omega), Array.extract_eq_self_of_le (by simp)] at this
    exact this
  · rw [List.pairwise_iff_getElem]
    intro i j hi hj hij
    have := hs i j (Nat.zero_le _) hij (by simpa [hsz] using hj)
    have hi' : i < d'.size := by simpa using hi
    have hj' : j < d'.size := by simpa using hj
    simpa [hi', hj'] using this
  · refine .inr ⟨b, 0, rfl, R.lt, fun i hi j v hv => R.cell i (by simpa using hi) j v ?_⟩
    have hi' : i < d'.size := by simpa using hi
    rw [atR_eq _ i hi] at hv
    simpa [hi'] using hv
end Go.Proofs.Ytdepmoocjnmbeaa
