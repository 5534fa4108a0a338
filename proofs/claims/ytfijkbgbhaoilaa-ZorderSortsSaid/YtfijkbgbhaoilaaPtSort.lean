/-
  Package point: Sort; the library's stable sort of nothing.
-/
import Derived.Test.YtfijkbgbhaoilaaStSort
import Derived.Test.YtfijkbgbhaoilaaCmpInt
import Derived.Shelf.Abstract
namespace Go.Proofs.Ytfijkbgbhaoilaa
open Go.RowKit
set_option linter.unusedVariables false
set_option linter.unusedSimpArgs false

/-- By Id. -/
def cfId (x y : Pt) : Int := cmpI x.id y.id
def ltId : Pt → Pt → Bool := fun x y => decide (x.id < y.id)
theorem ltId_eq : ltC cfId = ltId := by funext x y; exact cmpI_lt x.id y.id
theorem weak_id : Weak ltId := ⟨fun x => by simp [ltId], fun x y z h k => by simp only [ltId, decide_eq_true_eq] at *; omega, fun x y z h k => by simp only [ltId, decide_eq_false_iff_not] at *; omega⟩

theorem insert_nil (p : Option Addr) (c : Nat) (fv : Value) (w : World) : Calls Try.prog 36 #[.slice p 0 c, .int .i64 0, .int .i64 0, fv] w fun e w' => e = .returned (.tuple #[]) ∧ w' = w := by
  go_enter Try.func36, Try.ntmps36
  go_wp2_with fail
  refine wp_loop_rounds 1 ?_
  rw [rounds_succ]
  go_wp2
  go_end0
  exact ⟨rfl, rfl⟩
theorem stable_nil (p : Option Addr) (c : Nat) (fv : Value) (w : World) : Calls Try.prog 30 #[.slice p 0 c, .int .i64 0, fv] w fun e w' => e = .returned (.tuple #[]) ∧ w' = w := by
  have K := hid (insert_nil p c fv w)
  go_enter Try.func30, Try.ntmps30
  go_wp2_with fail
  refine wp_loop_rounds 1 ?_
  rw [rounds_succ]
  go_wp2_with fail
  refine K.out.mono ?_
  rintro e w1 ⟨rfl, hw⟩
  rw [hw]
  clear hw w1 K
  go_wp2_with fail
  refine wp_loop_rounds 1 ?_
  rw [rounds_succ]
  go_wp2
  go_end0
  exact ⟨rfl, rfl⟩
theorem sortStable_nil (p : Option Addr) (c : Nat) (fv : Value) (w : World) : Calls Try.prog 18 #[.slice p 0 c, fv] w fun e w' => e = .returned (.tuple #[]) ∧ w' = w := by
  have K := hid (stable_nil p c fv w)
  go_enter Try.func18, Try.ntmps18
  go_wp2_with fail
  refine K.out.mono ?_
  rintro e w1 ⟨rfl, hw⟩
  rw [hw]
  clear hw w1 K
  go_wp2
  go_end0
  exact ⟨rfl, rfl⟩

set_option maxRecDepth 100000 in
theorem byId_any (x y : Pt) (w : World) : Calls Try.prog 21 #[.agg #[.int .i64 x.id, .int .u32 x.x, .int .u32 x.y, .string x.d], .agg #[.int .i64 y.id, .int .u32 y.x, .int .u32 y.y, .string y.d]] w fun e w' => e = .returned (.int .i64 (cfId x y)) ∧ Below w.heap.size w w' := by
  have K := hid (fun w => cmpi_any x.id y.id w)
  unfold cfId
  generalize cmpI x.id y.id = c at *
  have hb := hid (show Below w.heap.size w ((w.alloc (.cells #[.int .i64 x.id, .int .u32 x.x, .int .u32 x.y, .string x.d] 27)).alloc (.cells #[.int .i64 y.id, .int .u32 y.x, .int .u32 y.y, .string y.d] 27)) from ((Below.refl _ _).alloc (Nat.le_refl _) _).alloc (by simp) _)
  go_enter Try.func21, Try.ntmps21
  go_wp2_with fail
  refine (K.out _).mono ?_
  rintro e w1 ⟨rfl, hw⟩
  rw [hw]
  clear hw w1 K
  go_wp2
  go_ret
  exact ⟨rfl, hb.out⟩
theorem cmpF_id (b : Nat) : CmpF 21 #[] (fun _ => True) b cfId (fun _ => True) :=
  ⟨enters_of Try.func21 (by kernel_rfl) rfl, fun x y _ _ w _ => by rw [Array.append_empty]; exact byId_any x y w, fun _ _ _ _ => trivial, by
    have := weak_id
    rw [← ltId_eq] at this
    exact this⟩

/-- Any clone that is sorted. -/
theorem stS_nil {α : Type} (lt : α → α → Bool) : stS lt ([] : List α) = [] := rfl
set_option maxRecDepth 100000 in
theorem psort_any (p : Option Addr) (n cap : Nat) (f : Nat → Pt) (hn : n ≤ 4398046511104) (w : World) (R : RowP w p 4 n (fun i => pcells (f i))) :
    Calls Try.prog 12 #[.slice p n cap] w fun e w' => ∃ q c, e = .returned (.slice q n c) ∧ RowOwn gpT w' w.heap.size (.slice q n c) (stS ltId (ptL n f)) ∧ Below w.heap.size w w' := by
  have KC := hid (gclone_pts p n cap f (by omega) w R)
  have hnh := hid hn
  clear R hn
  go_enter Try.func12, Try.ntmps12
  go_wp2_with fail
  refine KC.out.mono ?_
  rintro e w1 ⟨q, c, rfl, O, hb⟩
  rcases RowOwn.form O with ⟨hv, hl⟩ | ⟨g, c', hv, hg, hgs, hc1, hc2⟩
  · obtain rfl : n = 0 := by have := congrArg List.length hl; rw [ptL_len] at this; exact this
    have KN := hid (fun fv => sortStable_nil q c fv w1)
    have Oh := hid (show RowOwn gpT w1 w.heap.size (.slice q 0 c) (stS ltId (ptL 0 f)) by
      have e : ptL 0 f = [] := rfl
      rw [e, stS_nil, ← e]
      exact O)
    have hbh := hid hb
    clear O hb hv hl KC
    go_wp2_with fail
    refine (KN.out _).mono ?_
    rintro e w2 ⟨rfl, hw⟩
    rw [hw]
    clear hw w2 KN
    go_wp2
    go_ret
    exact ⟨q, c, rfl, Oh.out, hbh.out⟩
  · rw [ptL_len] at hv
    cases hv
    have KS := hid (sortStable_any w.heap.size g n c 21 #[] (fun _ => True) cfId (fun _ => True) (cmpF_id g) (by have := hnh.out; omega) f (fun _ => trivial) w1 trivial O)
    have hbh := hid hb
    have hgh := hid hg
    clear O hb hc1 hc2 hg hgs KC
    go_wp2_with fail
    refine KS.out.mono ?_
    rintro e w2 ⟨rfl, O2, S2⟩
    have O2h := hid (show RowOwn gpT w2 w.heap.size (.slice (some ⟨g, 0, none⟩) n c) (stS ltId (ptL n f)) by rw [← ltId_eq]; exact O2)
    have B2 := hid (hbh.out.trans (S2.below hbh.out.size fun k e => by rw [e]; exact hgh.out))
    clear O2 S2 KS
    go_wp2
    go_ret
    exact ⟨_, c, rfl, O2h.out, B2.out⟩
end Go.Proofs.Ytfijkbgbhaoilaa
