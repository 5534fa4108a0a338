/-
  Package disk: what becoming sure leaves.
-/
import Derived.Test.YtpgibngohbohdaaDiskNew
namespace Go.Proofs.Ytpgibngohbohdaa
open Go.RowKit Go.Maps
set_option linter.unusedVariables false
set_option linter.unusedSimpArgs false

def DM.became (m : DM) (i : Nat) (x : OcS) (DO : DataW Unit) (n' : Nat) : DM := { m with Ls := m.Ls.set i x, DO := DO, n' := n' }
theorem became_sv (m : DM) (i : Nat) (x : OcS) (DO : DataW Unit) (n' : Nat) : (m.became i x DO n').sv = m.sv := by simp [DM.sv, DM.became]
theorem became_cells (m : DM) (i : Nat) (x : OcS) (DO : DataW Unit) (n' : Nat) : (m.became i x DO n').cells = m.cells := by
  simp [DM.cells, DM.became, DM.sv]
theorem became_base {m : DM} {i : Nat} {x : OcS} {DO : DataW Unit} {n' b k : Nat} : (m.became i x DO n').base b k ↔ m.base b k := by
  unfold DM.base
  rw [became_sv]
  exact Iff.rfl
theorem nodup_set {α : Type} {l : List α} (h : l.Nodup) (i : Nat) (x : α) (hx : ∀ j (hj : j < l.length), j ≠ i → l[j] ≠ x) : (l.set i x).Nodup := by
  unfold List.Nodup at h ⊢
  rw [List.pairwise_iff_getElem] at h ⊢
  intro a c ha hc hac
  rw [List.length_set] at ha hc
  rw [List.getElem_set, List.getElem_set]
  split
  · split
    · omega
    · rename_i h1 h2
      exact fun e => hx c hc (fun e' => h2 e'.symm) e.symm
  · split
    · rename_i h1 h2
      exact hx a ha (fun e' => h1 e'.symm)
    · exact h a c ha hc hac
theorem DiskM.became {w w1 w3 : World} {b : Nat} {m : DM} {K : Nat → Prop} (h : DiskM w b m K) {i : Nat} (hi : i < m.Ls.length) {x : OcS} {DO : DataW Unit} {n' : Nat} (b01 : Below w.heap.size w w1) (hx : x.soft w1) (hxl : x.l.length = 256)
    (hnow : (∃ j, j < m.Qs.length ∧ x = (atR wtT m.Qs j).x ∧ (atR wtT m.Qs j).at_ = (i : Int)) ∨ (∃ g, x.a = some ⟨g, 0, none⟩ ∧ w.heap.size ≤ g ∧ g < w1.heap.size))
    (S13 : Sole (fun k => m.sv.ownBlock = some k ∨ k = m.om) w1 w3) (hS : RowOwn ocT w3 0 m.sv (m.Ls.set i x)) (hO : w3.ownsMap Try.prog 3 unitElem m.om n' DO) :
    DiskM w3 b (m.became i x DO n') (fun k => K k ∨ (w.heap.size ≤ k ∧ k < w1.heap.size)) := by
  have s01 := b01.size
  have s13 := S13.size
  have hbl : ∀ k, m.base b k → k < w.heap.size := fun k e => h.klt k (h.kk k e)
  have hT : ∀ k, (m.sv.ownBlock = some k ∨ k = m.om) → m.base b k := fun k e => e.elim (fun e => .inr (.inr (.inr (.inl e)))) (fun e => .inr (.inr (.inl e)))
  have D1 := h.more b01
  have ht3 : ∀ y : OcS, y.soft w1 → y.full K m b → y.soft w3 ∧ y.full (fun k => K k ∨ (w.heap.size ≤ k ∧ k < w1.heap.size)) (m.became i x DO n') b := fun y hy ⟨g, e, kg, hg, r⟩ =>
    ⟨so_sole hy S13 fun b' o e' => by rw [e] at e'; cases e'; exact fun h' => hg (hT _ h'), g, e, .inl kg, fun hb => hg (became_base.1 hb), r⟩
  have hfr : ∀ y : OcS, y.full K m b → ∀ g, x.a = some ⟨g, 0, none⟩ → w.heap.size ≤ g → y.a ≠ x.a := fun y ⟨g', e, kg, _⟩ g hg hge e' => by
    rw [e, hg] at e'; cases e'
    have := h.klt _ kg; omega
  have hx3 : x.soft w3 ∧ x.full (fun k => K k ∨ (w.heap.size ≤ k ∧ k < w1.heap.size)) (m.became i x DO n') b := by
    rcases hnow with ⟨j, hj, rfl, hat⟩ | ⟨g, e, h1, h2⟩
    · exact ht3 _ hx (h.QO _ (atR_mem m.Qs j hj)).1.2
    · refine ⟨so_sole hx S13 fun b' o e' => by rw [e] at e'; cases e'; exact fun h' => by have := hbl _ (hT _ h'); omega, g, e, .inr ⟨h1, h2⟩, fun hb => ?_, hxl⟩
      have := hbl g (became_base.1 hb); omega
  exact
  { blk := by rw [became_cells]; exact D1.blk.sole S13 (by rintro (e | e); exact (h.apart.s b e).1 rfl; exact h.apart.bo e)
    apart := ⟨h.apart.bl, h.apart.bo, h.apart.lo, by rw [became_sv]; exact h.apart.s, h.apart.w, h.apart.f⟩
    kk := fun k hk => .inl (h.kk k (became_base.1 hk))
    klt := fun k hk => by
      rcases hk with r | r
      · have := h.klt k r; omega
      · omega
    S := by rw [became_sv]; exact hS
    SO := fun y hy => by
      rcases List.mem_or_eq_of_mem_set hy with r | rfl
      · exact ht3 y (D1.SO y r).1 (h.SO y r).2
      · exact hx3
    Q := D1.Q.sole S13 fun k e => by
      rintro (r | r)
      · exact (h.apart.s k r).2.2.2.1 e
      · exact (h.apart.w k e).2.2.1 r
    QO := fun y hy => ⟨ht3 _ (D1.QO y hy).1.1 (h.QO y hy).1.2, (h.QO y hy).2.1, by
      show y.at_ < ((m.Ls.set i x).length : Int)
      rw [List.length_set]
      exact (h.QO y hy).2.2⟩
    F := D1.F.sole S13 fun k e => by
      rintro (r | r)
      · exact (h.apart.s k r).2.2.2.2 e
      · exact (h.apart.f k e).2.2 r
    L := map_sole D1.L S13 (by
      rintro (r | r)
      · exact (h.apart.s _ r).2.1 rfl
      · exact h.apart.lo r)
    O := hO
    last := h.last
    lenS := by show (m.Ls.set i x).length ≤ 4096; rw [List.length_set]; exact h.lenS
    cwf := h.cwf
    fwf := h.fwf
    uniq := by
      refine ⟨?_, h.uniq.q, fun s j hs hj e => ?_⟩
      · show ((m.Ls.set i x).map OcS.a).Nodup
        rw [List.map_set]
        refine nodup_set h.uniq.s i _ fun j hj hne => ?_
        rw [List.length_map] at hj
        rw [List.getElem_map]
        rcases hnow with ⟨j', hj', rfl, hat⟩ | ⟨g, e, h1, h2⟩
        · intro e'
          have := h.uniq.sq j j' hj hj' (by rw [ocA_eq m.Ls j hj]; exact e')
          omega
        · exact hfr _ (h.SO _ (List.getElem_mem hj)).2 g e h1
      · have hs' : s < m.Ls.length := by have : s < (m.Ls.set i x).length := hs; rwa [List.length_set] at this
        have e2 : (ocA (m.Ls.set i x) s).a = (atR wtT m.Qs j).x.a := e
        rw [ocA_eq _ s (by rw [List.length_set]; exact hs'), List.getElem_set] at e2
        split at e2
        · rename_i his
          subst his
          rcases hnow with ⟨j', hj', rfl, hat⟩ | ⟨g, ex, h1, h2⟩
          · have hjj : j' = j := by
              have hq := h.uniq.q
              unfold List.Nodup at hq
              rw [List.pairwise_iff_getElem] at hq
              rw [atR_eq m.Qs j' hj', atR_eq m.Qs j hj] at e2
              rcases Nat.lt_trichotomy j' j with h1 | h1 | h1
              · exact absurd (by rw [List.getElem_map, List.getElem_map]; exact e2) (hq j' j (by rw [List.length_map]; exact hj') (by rw [List.length_map]; exact hj) h1)
              · exact h1
              · exact absurd (by rw [List.getElem_map, List.getElem_map]; exact e2.symm) (hq j j' (by rw [List.length_map]; exact hj) (by rw [List.length_map]; exact hj') h1)
            subst hjj
            exact hat.symm
          · exact absurd e2.symm (hfr _ (h.QO _ (atR_mem m.Qs j hj)).1.2 g ex h1)
        · rw [← ocA_eq m.Ls s hs'] at e2
          exact h.uniq.sq s j hs' hj e2 }
end Go.Proofs.Ytpgibngohbohdaa
