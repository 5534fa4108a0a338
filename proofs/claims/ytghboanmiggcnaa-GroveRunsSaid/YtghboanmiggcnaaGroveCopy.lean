/-
  Package grove: copied; a node's points, as a list.
-/
import Derived.Test.YtghboanmiggcnaaGroveNobody
import Derived.Test.YtghboanmiggcnaaPtT
import Derived.Test.YtghboanmiggcnaaNodePut
import Derived.Lib.BufferMore
namespace Go.Proofs.Ytghboanmiggcnaa
open Go.RowKit
set_option linter.unusedVariables false
set_option linter.unusedSimpArgs false

theorem sole_setAll {S : Nat → Prop} {b : Nat} (hb : S b) : ∀ (vs : List Value) (o : Nat) (w : World), Sole S w (setAll w b o vs)
  | [], _, w => Sole.refl _ w
  | v :: vs, o, w => (Sole.setCell w v hb).trans (sole_setAll hb vs (o + 1) _)
/-- A node's cells. -/
abbrev ndl (lf : Bool) (v : Value) (nx k0 k1 k2 k3 c0 c1 c2 c3 : Int) : List Value := [.bool lf, v, .int .i64 nx, .int .i64 k0, .int .i64 k1, .int .i64 k2, .int .i64 k3, .int .i64 c0, .int .i64 c1, .int .i64 c2, .int .i64 c3]
set_option maxRecDepth 100000 in
set_option maxHeartbeats 4000000 in
theorem gcopied_any (lf : Bool) (p : Option Addr) (n cap : Nat) (f : Nat → Pt) (hn : n ≤ 1000000) (nx k0 k1 k2 k3 c0 c1 c2 c3 : Int) (w : World) (R : RowP w p 4 n (fun i => pcells (f i))) :
    Calls Try.prog 29 #[.agg (ndl lf (.slice p n cap) nx k0 k1 k2 k3 c0 c1 c2 c3).toArray] w fun e w' => ∃ q c, e = .returned (.agg (ndl lf (.slice q n c) nx k0 k1 k2 k3 c0 c1 c2 c3).toArray) ∧ OwnP w' w.heap.size q n c f ∧ Below w.heap.size w w' := by
  obtain ⟨W0, hW0⟩ : ∃ W0, (w.alloc (.cells (ndl lf (.slice p n cap) nx k0 k1 k2 k3 c0 c1 c2 c3).toArray 29)).alloc (.cells (ndl false (.slice none 0 0) 0 0 0 0 0 0 0 0 0).toArray 29) = W0 := ⟨_, rfl⟩
  have hb0 : Below w.heap.size w W0 := by rw [← hW0]; exact (below_one _ _).trans ((below_one _ _).mono (by simp))
  have B1 : Blk W0 w.heap.size (ndl lf (.slice p n cap) nx k0 k1 k2 k3 c0 c1 c2 c3).toArray := by
    rw [← hW0]
    exact (Blk.new w _ _).more (below_one _ _)
  have B2 : Blk W0 (w.heap.size + 1) (ndl false (.slice none 0 0) 0 0 0 0 0 0 0 0 0).toArray := by
    rw [← hW0]
    have := Blk.new (w.alloc (.cells (ndl lf (.slice p n cap) nx k0 k1 k2 k3 c0 c1 c2 c3).toArray 29)) (ndl false (.slice none 0 0) 0 0 0 0 0 0 0 0 0).toArray 29
    simpa using this
  have s0 : W0.heap.size = w.heap.size + 2 := by rw [← hW0]; simp
  have KC := hid (gclone_pts p n cap f (by omega) W0 (R.more hb0))
  have H1 := hid B1
  have H2 := hid B2
  have D0 := hid hb0
  have s0h := hid s0
  clear R B2 hb0 s0
  obtain ⟨l1, m1, f1⟩ := B1
  go_enter Try.func29, Try.ntmps29
  go_wp2_with fail
  refine KC.out.mono ?_
  rintro e w1 ⟨q, c, rfl, O1, hb1⟩
  have B1 := (H1.out.more hb1).set 1 (.slice q n c) (by simp)
  have B2 := (H2.out.more hb1).other ⟨w.heap.size, 1, none⟩ (show w.heap.size ≠ w.heap.size + 1 by omega) (.slice q n c)
  have D1 := (below2 D0.out hb1 D0.out.size)
  have SA := Sole.setCell (S := fun k => k = w.heap.size) w1 (b := w.heap.size) (o := 1) (.slice q n c) rfl
  have D2 := hid (D1.trans (SA.below (B := w.heap.size) D1.size fun k e => by omega))
  have O2 := hid (O1.sole SA (fun k hk e => by have := (RowOwn.within O1 k hk).1; have := s0h.out; omega))
  obtain ⟨l1', m1', f1'⟩ := H1.out.more hb1
  obtain ⟨l2', m2', f2'⟩ := H2.out.more hb1
  have B2h := hid B2
  clear hb1 O1 D1 SA KC H1 H2 D0 l1 m1 f1 hW0 B2
  clear B1
  go_wp2
  have B3 : Blk (setAll (w1.setCell ⟨w.heap.size, 1, none⟩ (.slice q n c)) (w.heap.size + 1) 0 (ndl lf (.slice q n c) nx k0 k1 k2 k3 c0 c1 c2 c3)) (w.heap.size + 1) _ := Blk.fill (ndl lf (.slice q n c) nx k0 k1 k2 k3 c0 c1 c2 c3) 0 B2h.out (by simp)
  have D3 := hid (below_fill (b := w.heap.size + 1) (Nat.le_succ _) (ndl lf (.slice q n c) nx k0 k1 k2 k3 c0 c1 c2 c3) 0 D2.out)
  have S3 := sole_setAll (S := fun k => k = w.heap.size + 1) rfl (ndl lf (.slice q n c) nx k0 k1 k2 k3 c0 c1 c2 c3) 0 (w1.setCell ⟨w.heap.size, 1, none⟩ (.slice q n c))
  have O3 := hid (RowOwn.mono (O2.out.sole S3 (fun k hk e => by have := (RowOwn.within O2.out k hk).1; have := s0h.out; omega)) (show w.heap.size ≤ W0.heap.size by have := s0h.out; omega))
  clear S3 O2 D2 B2h l1' m1' f1' l2' m2' f2'
  simp only [setAll, Nat.zero_add, Nat.reduceAdd] at B3 D3 O3
  generalize World.setCell _ _ _ = W3 at *
  obtain ⟨l9, g9, f9⟩ := B3
  refine bodyPost_ret (v := .agg (ndl lf (.slice q n c) nx k0 k1 k2 k3 c0 c1 c2 c3).toArray) (by simp [results, Try.results29, go_sem, g9, fillC]) rfl ⟨q, c, rfl, O3.out, D3.out⟩
end Go.Proofs.Ytghboanmiggcnaa
