/-
  Package grove: copied; a node's points, as a list.
-/
import Derived.Test.YtgjdngpninpgmaaGroveNobody
import Derived.Test.YtgjdngpninpgmaaOwnRow
import Derived.Test.YtgjdngpninpgmaaNodePut
import Derived.Lib.BufferMore
namespace Go.Proofs.Ytgjdngpninpgmaa
open Go.RowKit
set_option linter.unusedVariables false
set_option linter.unusedSimpArgs false

def gpT : RowT Pt := { ty := 28, sl := 22, sz := 4, bytes := 32, zero := .agg #[.int .i64 0, .int .u32 0, .int .u32 0, .string ByteArray.empty], cells := pcells, dflt := ⟨0, 0, 0, ByteArray.empty⟩ }
theorem gpOk : gpT.Ok := ⟨Try.underlying22, by kernel_rfl, rfl, by decide, fun _ => rfl, fun x u hu => by
  simp [gpT, pcells] at hu
  rcases hu with rfl | rfl | rfl | rfl <;> rfl⟩
/-- The first n, as a list. -/
def ptL (n : Nat) (f : Nat → Pt) : List Pt := (List.range n).map f
theorem ptL_len (n : Nat) (f : Nat → Pt) : (ptL n f).length = n := by simp [ptL]
theorem ptL_at (n : Nat) (f : Nat → Pt) {i : Nat} (h : i < n) : atR gpT (ptL n f) i = f i := by
  have hl : i < (ptL n f).length := by rw [ptL_len]; exact h
  rw [atR_eq _ _ hl]
  simp [ptL]
theorem rowp_list {w : World} {p : Option Addr} {n : Nat} {f : Nat → Pt} (h : RowP w p 4 n (fun i => pcells (f i))) : RowOf gpT w p (ptL n f) := by
  unfold RowOf
  rw [ptL_len]
  rcases h with h | ⟨b, o, e, R⟩
  · exact .inl h
  · exact .inr ⟨b, o, e, R.lt, fun i hi j v hv => R.cell i hi j v (by rw [← ptL_at n f hi]; exact hv)⟩
theorem list_rowp {w : World} {p : Option Addr} {n : Nat} {f : Nat → Pt} (h : RowOf gpT w p (ptL n f)) : RowP w p 4 n (fun i => pcells (f i)) := by
  unfold RowOf at h
  rw [ptL_len] at h
  rcases h with h | ⟨b, o, e, R⟩
  · exact .inl h
  · exact .inr ⟨b, o, e, R.lt, fun i hi j v hv => R.cell i hi j v (by rw [ptL_at n f hi]; exact hv)⟩

/-- Points in a row of the call's own: n of them, from base on. -/
def OwnP (w : World) (base : Nat) (p : Option Addr) (n cap : Nat) (f : Nat → Pt) : Prop := RowOwn gpT w base (.slice p n cap) (ptL n f)
theorem OwnP.row {w : World} {base : Nat} {p : Option Addr} {n cap : Nat} {f : Nat → Pt} (h : OwnP w base p n cap f) : n ≤ cap ∧ cap ≤ maxLen ∧ RowP w p 4 n (fun i => pcells (f i)) := by
  obtain ⟨p', cap', hv, h1, h2, h3⟩ := RowOwn.open gpOk h
  rw [ptL_len] at hv h1
  cases hv
  exact ⟨h1, h2, list_rowp h3⟩
set_option maxRecDepth 100000 in
theorem gclone_pts (p : Option Addr) (n cap : Nat) (f : Nat → Pt) (hn : n ≤ 1000000) (w : World) (R : RowP w p 4 n (fun i => pcells (f i))) :
    Calls Try.prog 56 #[.slice p n cap] w fun e w' => ∃ q c, e = .returned (.slice q n c) ∧ OwnP w' w.heap.size q n c f ∧ Below w.heap.size w w' := by
  rcases p with _ | x
  · obtain rfl : n = 0 := by
      rcases R with h | ⟨b, o, e, _⟩
      · exact h
      · cases e
    have ke := fun w => Lib.run_eql_slice_nil_nil (P := Try.prog) w (t := 22) (e := 28) 0 cap Try.underlying22
    go_enter Try.func56, Try.ntmps56
    go_wp2_with fail
    go_ret
    exact ⟨none, 0, rfl, RowOwn.nil _ _, Below.refl _ _⟩
  · have ke := fun w => Lib.run_eql_slice_some_nil (P := Try.prog) w (t := 22) (e := 28) x n cap Try.underlying22
    have OM : RowOwn gpT (w.alloc (.cells #[] 28)) w.heap.size (.slice (some ⟨w.heap.size, 0, none⟩) 0 0) [] := World.ownsRow_made (size := 4) w #[] 0 (Nat.le_refl _) (Nat.zero_le _) rfl
    have hb0 : Below w.heap.size w (w.alloc (.cells #[] 28)) := Below.alloc (Below.refl _ _) (Nat.le_refl _) _
    have hlen := ptL_len n f
    obtain ⟨v', w', hr, O', gr, mv⟩ := append_row gpOk w.heap.size 22 (w.alloc (.cells #[] 28)) _ [] OM (some x) cap (ptL n f) (RowOf.more (rowp_list R) hb0) (by rw [hlen]; show (0 + n) * 32 ≤ _; omega) (by unfold maxLen; simp [ptL_len]; omega) (by simp)
    obtain ⟨q, c, hv, _⟩ := RowOwn.open gpOk O'
    rw [List.nil_append, hlen] at hv
    subst hv
    rw [hlen] at hr
    have E : Hid (OwnP w' w.heap.size q n c f ∧ Below w.heap.size w w') := hid ⟨O', Below.grown hb0 gr (by simp) fun k hk => (OM.within k hk).1⟩
    clear R OM hb0 O' gr mv hlen
    replace hn := hid hn
    go_enter Try.func56, Try.ntmps56
    go_wp2_with (at_builtin; refine Lib.wpList_append_run _ rfl _ _ _ _ rfl _ _ rfl rfl _ _ hr ?_)
    go_ret
    exact ⟨q, c, rfl, E.out.1, E.out.2⟩

theorem sole_setAll {S : Nat → Prop} {b : Nat} (hb : S b) : ∀ (vs : List Value) (o : Nat) (w : World), Sole S w (setAll w b o vs)
  | [], _, w => Sole.refl _ w
  | v :: vs, o, w => (Sole.setCell w v hb).trans (sole_setAll hb vs (o + 1) _)
/-- A node's cells. -/
abbrev ndl (lf : Bool) (v : Value) (nx k0 k1 k2 k3 c0 c1 c2 c3 : Int) : List Value := [.bool lf, v, .int .i64 nx, .int .i64 k0, .int .i64 k1, .int .i64 k2, .int .i64 k3, .int .i64 c0, .int .i64 c1, .int .i64 c2, .int .i64 c3]
set_option maxRecDepth 100000 in
set_option maxHeartbeats 4000000 in
theorem gcopied_any (lf : Bool) (p : Option Addr) (n cap : Nat) (f : Nat → Pt) (hn : n ≤ 1000000) (nx k0 k1 k2 k3 c0 c1 c2 c3 : Int) (w : World) (R : RowP w p 4 n (fun i => pcells (f i))) :
    Calls Try.prog 44 #[.agg (ndl lf (.slice p n cap) nx k0 k1 k2 k3 c0 c1 c2 c3).toArray] w fun e w' => ∃ q c, e = .returned (.agg (ndl lf (.slice q n c) nx k0 k1 k2 k3 c0 c1 c2 c3).toArray) ∧ OwnP w' w.heap.size q n c f ∧ Below w.heap.size w w' := by
  obtain ⟨W0, hW0⟩ : ∃ W0, (w.alloc (.cells (ndl lf (.slice p n cap) nx k0 k1 k2 k3 c0 c1 c2 c3).toArray 62)).alloc (.cells (ndl false (.slice none 0 0) 0 0 0 0 0 0 0 0 0).toArray 62) = W0 := ⟨_, rfl⟩
  have hb0 : Below w.heap.size w W0 := by rw [← hW0]; exact (below_one _ _).trans ((below_one _ _).mono (by simp))
  have B1 : Blk W0 w.heap.size (ndl lf (.slice p n cap) nx k0 k1 k2 k3 c0 c1 c2 c3).toArray := by
    rw [← hW0]
    exact (Blk.new w _ _).more (below_one _ _)
  have B2 : Blk W0 (w.heap.size + 1) (ndl false (.slice none 0 0) 0 0 0 0 0 0 0 0 0).toArray := by
    rw [← hW0]
    have := Blk.new (w.alloc (.cells (ndl lf (.slice p n cap) nx k0 k1 k2 k3 c0 c1 c2 c3).toArray 62)) (ndl false (.slice none 0 0) 0 0 0 0 0 0 0 0 0).toArray 62
    simpa using this
  have s0 : W0.heap.size = w.heap.size + 2 := by rw [← hW0]; simp
  have KC := hid (gclone_pts p n cap f hn W0 (R.more hb0))
  have H1 := hid B1
  have H2 := hid B2
  have D0 := hid hb0
  have s0h := hid s0
  clear R B2 hb0 s0
  obtain ⟨l1, m1, f1⟩ := B1
  go_enter Try.func44, Try.ntmps44
  go_wp2_with fail
  refine KC.out.mono ?_
  rintro e w1 ⟨q, c, rfl, O1, hb1⟩
  have B1 := (H1.out.more hb1).set 1 (.slice q n c) (by simp)
  have B2 := (H2.out.more hb1).other ⟨w.heap.size, 1, none⟩ (show w.heap.size ≠ w.heap.size + 1 by omega) (.slice q n c)
  have D1 := (below2 D0.out hb1 D0.out.size)
  have SA := Sole.setCell (S := fun k => k = w.heap.size) w1 (b := w.heap.size) (o := 1) (.slice q n c) rfl
  have D2 := hid (D1.trans (SA.below (B := w.heap.size) D1.size fun k e => by omega))
  have O2 := hid (O1.sole SA (fun k hk e => by have := (RowOwn.within O1 k hk).1; have := s0h.out; omega))
  obtain ⟨l1', m1', f1'⟩ := H1.out.more hb1
  obtain ⟨l2', m2', f2'⟩ := H2.out.more hb1
  have B2h := hid B2
  clear hb1 O1 D1 SA KC H1 H2 D0 l1 m1 f1 hW0 B2
  clear B1
  go_wp2
  have B3 : Blk (setAll (w1.setCell ⟨w.heap.size, 1, none⟩ (.slice q n c)) (w.heap.size + 1) 0 (ndl lf (.slice q n c) nx k0 k1 k2 k3 c0 c1 c2 c3)) (w.heap.size + 1) _ := Blk.fill (ndl lf (.slice q n c) nx k0 k1 k2 k3 c0 c1 c2 c3) 0 B2h.out (by simp)
  have D3 := hid (below_fill (b := w.heap.size + 1) (Nat.le_succ _) (ndl lf (.slice q n c) nx k0 k1 k2 k3 c0 c1 c2 c3) 0 D2.out)
  have S3 := sole_setAll (S := fun k => k = w.heap.size + 1) rfl (ndl lf (.slice q n c) nx k0 k1 k2 k3 c0 c1 c2 c3) 0 (w1.setCell ⟨w.heap.size, 1, none⟩ (.slice q n c))
  have O3 := hid (RowOwn.mono (O2.out.sole S3 (fun k hk e => by have := (RowOwn.within O2.out k hk).1; have := s0h.out; omega)) (show w.heap.size ≤ W0.heap.size by have := s0h.out; omega))
  clear S3 O2 D2 B2h l1' m1' f1' l2' m2' f2'
  simp only [setAll, Nat.zero_add, Nat.reduceAdd] at B3 D3 O3
  generalize World.setCell _ _ _ = W3 at *
  obtain ⟨l9, g9, f9⟩ := B3
  refine bodyPost_ret (v := .agg (ndl lf (.slice q n c) nx k0 k1 k2 k3 c0 c1 c2 c3).toArray) (by simp [results, Try.results44, go_sem, g9, fillC]) rfl ⟨q, c, rfl, O3.out, D3.out⟩
end Go.Proofs.Ytgjdngpninpgmaa
