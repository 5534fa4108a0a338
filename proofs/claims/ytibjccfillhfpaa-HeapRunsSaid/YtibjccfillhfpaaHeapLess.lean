/-
  package heap: Less.
-/
import Derived.Test.YtibjccfillhfpaaOrThree
import Derived.Test.YtibjccfillhfpaaRegion
namespace Go.Proofs.Ytibjccfillhfpaa
open Go.RowKit
set_option linter.unusedVariables false
set_option linter.unusedSimpArgs false

structure It where
  h : Int
  l : Int
  o : Int
  i : Int
def icells (a : It) : List Value := [.int .u64 a.h, .int .u64 a.l, .int .i64 a.o, .int .i64 a.i]
abbrev itval (a : It) : Value := .agg #[.int .u64 a.h, .int .u64 a.l, .int .i64 a.o, .int .i64 a.i]
def lessI (a b : It) : Int := or3I (cmpD a.h a.l b.h b.l) (cmpI a.o b.o) (cmpI a.i b.i)
def lessB (a b : It) : Bool := decide (lessI a b < 0)

set_option maxRecDepth 100000 in
set_option maxHeartbeats 4000000 in
theorem less_any (a b : It) (w : World) :
    Calls Try.prog 33 #[itval a, itval b] w fun e w' => e = .returned (.bool (lessB a b)) ∧ Below w.heap.size w w' := by
  obtain ⟨ah, al, ao, ai⟩ := a
  obtain ⟨bh, bl, bo, bi⟩ := b
  have K0 := hid (fun w => cmp_any ah al bh bl w)
  have K1 := hid (fun w => compare_i64 ao bo w)
  have K2 := hid (fun w => compare_i64 ai bi w)
  have K3 := hid (fun x o w c0 c1 c2 => or3 (cmpD ah al bh bl) (cmpI ao bo) (cmpI ai bi) x o w c0 c1 c2)
  unfold itval lessB lessI
  simp only
  generalize cmpD ah al bh bl = d0 at *
  generalize cmpI ao bo = d1 at *
  generalize cmpI ai bi = d2 at *
  generalize or3I d0 d1 d2 = d at *
  obtain ⟨B0, B1, H⟩ := @boxed2 w _ #[.int .u64 ah, .int .u64 al, .int .i64 ao, .int .i64 ai] #[.int .u64 bh, .int .u64 bl, .int .i64 bo, .int .i64 bi] 55 55 (Below.refl _ _)
  have hH := hid H
  cases hlt : decide (d < 0)
  all_goals
    go_enter Try.func33, Try.ntmps33
    go_wp2_with fail
    generalize (w.alloc (.cells #[.int .u64 ah, .int .u64 al, .int .i64 ao, .int .i64 ai] 55)).alloc (.cells #[.int .u64 bh, .int .u64 bl, .int .i64 bo, .int .i64 bi] 55) = W at *
    have q0 := fun u : Later W => u.blk B0
    have q1 := fun u : Later W => u.blk B1
    clear B0 B1 H
    refine wp_region_late 15 (by kernel_rfl) (by kernel_rfl) ?_
    simp only [List.take_succ_cons, List.take_zero, List.drop_succ_cons, List.drop_zero]
    repeat (quiet_step (first | (go_at_call 37; (with_reducible exact late_call (K0.out _))) | (go_at_call 38; first | (with_reducible exact late_same (K1.out _)) | (with_reducible exact late_same (K2.out _)))))
    refine wpQuiet_nil ?_
    intro w3 h3'
    have h3 := hid (late_out h3')
    clear h3' q0 q1
    go_wp2_with (go_at_call 36; refine (K3.out _ _ _ (by go_simp) (by go_simp) (by go_simp)).mono ?_; rintro e w' ⟨rfl, rfl⟩)
    go_ret
    exact ⟨rfl, below2 hH.out (below2 h3.out ((Below.refl _ _).alloc (Nat.le_refl _) _) h3.out.size) hH.out.size⟩
end Go.Proofs.Ytibjccfillhfpaa
