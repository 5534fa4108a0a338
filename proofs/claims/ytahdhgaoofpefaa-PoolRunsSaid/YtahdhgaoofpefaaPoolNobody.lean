/-
  Layer 15: what comes first goes first; a pool that nobody made has nothing.
-/
import Derived.Test.YtahdhgaoofpefaaPoolNil
import Derived.Test.YtahdhgaoofpefaaRegion
import Derived.BigQuiet
namespace Go.Proofs.Ytahdhgaoofpefaa
open Go.RowKit Go.Conc
set_option linter.unusedVariables false
set_option linter.unusedSimpArgs false

theorem row_ints (w : World) (l : List Int) (t : TypeId) : RowP (w.alloc (.cells (l.map (Value.int .i64)).toArray t)) (some ⟨w.heap.size, 0, none⟩) 1 l.length (fun i => [.int .i64 (l.getD i 0)]) := by
  have h := Blk.new w (l.map (Value.int .i64)).toArray t
  refine .inr ⟨_, _, rfl, h.lt, fun i hi j v hv => ?_⟩
  have hj : j = 0 := by
    rcases j with _ | j
    · rfl
    · simp at hv
  subst hj
  simp at hv
  subst hv
  simp only [Nat.mul_one, Nat.zero_add, Nat.add_zero]
  rw [h.cell]
  simp [hi]

set_option maxRecDepth 100000 in
theorem alive15 (w : World) : Calls Try.prog 10 #[] w fun e w' => e = .returned (.bool true) ∧ Below w.heap.size w w' := by
  have hb1 : Below w.heap.size w (w.alloc (.cells #[.int .i64 4, .int .i64 5] 3)) := (Below.refl _ _).alloc (Nat.le_refl _) _
  have KN := hid (new_any (some ⟨w.heap.size, 0, none⟩) 2 [4, 5] (Nat.le_refl _) (by decide) (w.alloc (.cells #[.int .i64 4, .int .i64 5] 3)) (row_ints w [4, 5] _))
  have hb1h := hid hb1
  clear hb1
  go_enter Try.func10, Try.ntmps10
  go_wp2_with fail
  refine KN.out.mono ?_
  rintro e w1 ⟨p, c, rfl, hp, hc, P1, hb⟩
  have hp' : w.heap.size ≤ c := by simp at hc; omega
  have KT := hid (take_any p c [4, 5] w1 P1)
  have hbh := hid (hb1h.out.trans (hb.mono hb1h.out.size))
  clear P1 hb KN hp hc
  go_wp2_with fail
  refine KT.out.mono ?_
  rintro e w2 ⟨rfl, P2, S2⟩
  have KL := hid (len_any p c _ w2 P2)
  have hS := hid (hbh.out.trans (S2.below (B := w.heap.size) hbh.out.size (fun k hk => by omega)))
  clear P2 S2 KT
  go_wp2_with fail
  refine KL.out.mono ?_
  rintro e w3 ⟨rfl, rfl⟩
  go_wp2_with fail
  go_ret
  exact ⟨by simp, hS.out⟩

set_option maxRecDepth 100000 in
set_option maxHeartbeats 4000000 in
theorem poolNobody (n : Int) (w : World) : Calls Try.prog 4 #[.int .i64 n] w fun e w' => e = .returned (.bool true) ∧ Below w.heap.size w w' := by
  go_enter Try.func4, Try.ntmps4
  go_wp2_with fail
  have Bz0 := Blk.new w #[.chan none] 39
  have hbz : Below w.heap.size w (w.alloc (.cells #[.chan none] 39)) := (Below.refl _ _).alloc (Nat.le_refl _) _
  have Bs := Blk.new (w.alloc (.cells #[.chan none] 39)) #[.pointer none, .pointer (some ⟨w.heap.size, 0, none⟩)] 25
  have hbs : Below (w.alloc (.cells #[.chan none] 39)).heap.size (w.alloc (.cells #[.chan none] 39)) ((w.alloc (.cells #[.chan none] 39)).alloc (.cells #[.pointer none, .pointer (some ⟨w.heap.size, 0, none⟩)] 25)) := (Below.refl _ _).alloc (Nat.le_refl _) _
  have Bz := Bz0.more hbs
  have hbb := hid (hbz.trans (hbs.mono hbz.size))
  simp only [World.size_alloc] at Bs
  clear Bz0 hbz hbs
  generalize ((w.alloc (.cells #[.chan none] 39)).alloc (.cells #[.pointer none, .pointer (some ⟨w.heap.size, 0, none⟩)] 25)) = W at *
  refine wp_loop_rounds 3 ?_
  rw [rounds_succ]
  have Bsh := hid Bs
  have Bzh := hid Bz
  obtain ⟨l0, k0, f0⟩ := Bs
  clear Bz
  go_wp2_with fail
  refine (takeNil _).mono ?_
  rintro e w' ⟨rfl, rfl⟩
  have q0 := fun u : Later w' => u.blk Bsh.out
  have KPut := hid (fun (n : Int) (u : Later w') => putNil n u.val)
  have KLen := hid (fun (u : Later w') => lenNil u.val)
  have KAll := hid (fun (u : Later w') => allNil u.val)
  have KClone := hid (fun (u : Later w') => cloneNil u.val)
  go_upto_region 7 with (fail)
  refine wp_region_late 35 (by kernel_rfl) (by kernel_rfl) ?_
  simp only [List.take_succ_cons, List.take_zero, List.drop_succ_cons, List.drop_zero]
  repeat (go_big_quiet_step (first
      | (go_at_call 12; with_reducible exact late_same (KPut.out _ _))
      | (go_at_call 17; with_reducible exact late_same (KLen.out _))
      | (go_at_call 16; with_reducible exact late_same (KAll.out _))
      | (go_at_call 14; with_reducible exact late_same (KClone.out _))))
  refine wpQuiet_nil ?_
  intro W3 h3'
  have h3 := late_out h3'
  clear h3'
  have Bs3 := hid (Bsh.out.more h3)
  have Bz3 := hid (Bzh.out.more h3)
  have hb3 := hid (hbb.out.trans (h3.mono hbb.out.size))
  clear KPut KLen KAll KClone q0 h3 l0 k0 f0
  obtain ⟨l0, k0, f0⟩ := Bs3.out
  go_wp2_with fail
  rw [rounds_succ]
  go_wp2_with fail
  refine (takeZero _ _ Bz3.out).mono ?_
  rintro e w4 ⟨rfl, rfl⟩
  have q0 := fun u : Later w4 => u.blk Bs3.out
  have KPut := hid (fun (n : Int) (u : Later w4) => putZero w.heap.size n u.val (Bz3.out.more u.h))
  have KLen := hid (fun (u : Later w4) => lenZero w.heap.size u.val (Bz3.out.more u.h))
  have KAll := hid (fun (u : Later w4) => allZero w.heap.size u.val (Bz3.out.more u.h))
  have KClone := hid (fun (u : Later w4) => cloneZero w.heap.size u.val (Bz3.out.more u.h))
  go_upto_region 7 with (fail)
  refine wp_region_late 35 (by kernel_rfl) (by kernel_rfl) ?_
  simp only [List.take_succ_cons, List.take_zero, List.drop_succ_cons, List.drop_zero]
  repeat (go_big_quiet_step (first
      | (go_at_call 12; with_reducible exact late_same (KPut.out _ _))
      | (go_at_call 17; with_reducible exact late_same (KLen.out _))
      | (go_at_call 16; with_reducible exact late_same (KAll.out _))
      | (go_at_call 14; with_reducible exact late_same (KClone.out _))))
  refine wpQuiet_nil ?_
  intro W5 h5'
  have h5 := late_out h5'
  have hb5 := hid (hb3.out.trans (h5.mono hb3.out.size))
  clear KPut KLen KAll KClone q0 h5 h5' l0 k0 f0 Bs3 Bz3
  go_wp2_with fail
  rw [rounds_succ]
  go_wp2_with fail
  refine (alive15 _).mono ?_
  rintro e w6 ⟨rfl, hb6⟩
  have hb7 := hid (hb5.out.trans (hb6.mono hb5.out.size))
  clear hb6
  go_wp2_with fail
  go_ret
  exact ⟨rfl, hb7.out⟩
end Go.Proofs.Ytahdhgaoofpefaa
