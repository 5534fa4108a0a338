/-
  Points in rows of the call's own, by number: slices.Clone of any points.
-/
import Derived.Test.YtghboanmiggcnaaOwnRow
import Derived.Lib.BufferMore
namespace Go.Proofs.Ytghboanmiggcnaa
open Go.RowKit
set_option linter.unusedVariables false
set_option linter.unusedSimpArgs false

def gpT : RowT Pt := { ty := 53, sl := 26, sz := 4, bytes := 32, zero := .agg #[.int .i64 0, .int .u32 0, .int .u32 0, .string ByteArray.empty], cells := pcells, dflt := ⟨0, 0, 0, ByteArray.empty⟩ }
theorem gpOk : gpT.Ok := ⟨Try.underlying26, by kernel_rfl, rfl, by decide, fun _ => rfl, fun x u hu => by
  simp [gpT, pcells] at hu
  rcases hu with rfl | rfl | rfl | rfl <;> rfl⟩
/-- The first n, as a list. -/
def ptL (n : Nat) (f : Nat → Pt) : List Pt := (List.range n).map f
theorem ptL_len (n : Nat) (f : Nat → Pt) : (ptL n f).length = n := by simp [ptL]
theorem ptL_at (n : Nat) (f : Nat → Pt) {i : Nat} (h : i < n) : atR gpT (ptL n f) i = f i := by
  have hl : i < (ptL n f).length := by rw [ptL_len]; exact h
  rw [atR_eq _ _ hl]
  simp [ptL]
theorem rowp_list {w : World} {p : Option Addr} {n : Nat} {f : Nat → Pt} (h : RowP w p 4 n (fun i => pcells (f i))) : RowOf gpT w p (ptL n f) := by
  unfold RowOf
  rw [ptL_len]
  rcases h with h | ⟨b, o, e, R⟩
  · exact .inl h
  · exact .inr ⟨b, o, e, R.lt, fun i hi j v hv => R.cell i hi j v (by rw [← ptL_at n f hi]; exact hv)⟩
theorem list_rowp {w : World} {p : Option Addr} {n : Nat} {f : Nat → Pt} (h : RowOf gpT w p (ptL n f)) : RowP w p 4 n (fun i => pcells (f i)) := by
  unfold RowOf at h
  rw [ptL_len] at h
  rcases h with h | ⟨b, o, e, R⟩
  · exact .inl h
  · exact .inr ⟨b, o, e, R.lt, fun i hi j v hv => R.cell i hi j v (by rw [ptL_at n f hi]; exact hv)⟩

/-- Points in a row of the call's own: n of them, from base on. -/
def OwnP (w : World) (base : Nat) (p : Option Addr) (n cap : Nat) (f : Nat → Pt) : Prop := RowOwn gpT w base (.slice p n cap) (ptL n f)
theorem OwnP.row {w : World} {base : Nat} {p : Option Addr} {n cap : Nat} {f : Nat → Pt} (h : OwnP w base p n cap f) : n ≤ cap ∧ cap ≤ maxLen ∧ RowP w p 4 n (fun i => pcells (f i)) := by
  obtain ⟨p', cap', hv, h1, h2, h3⟩ := RowOwn.open gpOk h
  rw [ptL_len] at hv h1
  cases hv
  exact ⟨h1, h2, list_rowp h3⟩
set_option maxRecDepth 100000 in
theorem gclone_pts (p : Option Addr) (n cap : Nat) (f : Nat → Pt) (hn : n * 32 ≤ 140737488355328) (w : World) (R : RowP w p 4 n (fun i => pcells (f i))) :
    Calls Try.prog 56 #[.slice p n cap] w fun e w' => ∃ q c, e = .returned (.slice q n c) ∧ OwnP w' w.heap.size q n c f ∧ Below w.heap.size w w' := by
  rcases p with _ | x
  · obtain rfl : n = 0 := by
      rcases R with h | ⟨b, o, e, _⟩
      · exact h
      · cases e
    have ke := fun w => Lib.run_eql_slice_nil_nil (P := Try.prog) w (t := 26) (e := 53) 0 cap Try.underlying26
    go_enter Try.func56, Try.ntmps56
    go_wp2_with fail
    go_ret
    exact ⟨none, 0, rfl, RowOwn.nil _ _, Below.refl _ _⟩
  · have ke := fun w => Lib.run_eql_slice_some_nil (P := Try.prog) w (t := 26) (e := 53) x n cap Try.underlying26
    have OM : RowOwn gpT (w.alloc (.cells #[] 53)) w.heap.size (.slice (some ⟨w.heap.size, 0, none⟩) 0 0) [] := World.ownsRow_made (size := 4) w #[] 0 (Nat.le_refl _) (Nat.zero_le _) rfl
    have hb0 : Below w.heap.size w (w.alloc (.cells #[] 53)) := Below.alloc (Below.refl _ _) (Nat.le_refl _) _
    have hlen := ptL_len n f
    obtain ⟨v', w', hr, O', gr, mv⟩ := append_row gpOk w.heap.size 26 (w.alloc (.cells #[] 53)) _ [] OM (some x) cap (ptL n f) (RowOf.more (rowp_list R) hb0) (by rw [hlen]; show (0 + n) * 32 ≤ _; omega) (by unfold maxLen; simp [ptL_len]; omega) (by simp)
    obtain ⟨q, c, hv, _⟩ := RowOwn.open gpOk O'
    rw [List.nil_append, hlen] at hv
    subst hv
    rw [hlen] at hr
    have E : Hid (OwnP w' w.heap.size q n c f ∧ Below w.heap.size w w') := hid ⟨O', Below.grown hb0 gr (by simp) fun k hk => (OM.within k hk).1⟩
    clear R OM hb0 O' gr mv hlen
    replace hn := hid hn
    go_enter Try.func56, Try.ntmps56
    go_wp2_with (at_builtin; refine Lib.wpList_append_run _ rfl _ _ _ _ rfl _ _ rfl rfl _ _ hr ?_)
    go_ret
    exact ⟨q, c, rfl, E.out.1, E.out.2⟩
end Go.Proofs.Ytghboanmiggcnaa
