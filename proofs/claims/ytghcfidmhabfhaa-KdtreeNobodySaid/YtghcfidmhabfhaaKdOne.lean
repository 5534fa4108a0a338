/-
  Package kdtree: a tree of one point.
-/
import Derived.Test.YtghcfidmhabfhaaKdOf
import Derived.Test.YtghcfidmhabfhaaOwnRow
import Derived.BigQuiet
import Derived.Lib.BufferMore
namespace Go.Proofs.Ytghcfidmhabfhaa
open Go.RowKit
set_option linter.unusedVariables false
set_option linter.unusedSimpArgs false

def kpT : RowT Pt := { ty := 102, sl := 49, sz := 4, bytes := 32, zero := .agg #[.int .i64 0, .int .u32 0, .int .u32 0, .string ByteArray.empty], cells := pcells, dflt := ⟨0, 0, 0, ByteArray.empty⟩ }
theorem kpOk : kpT.Ok := ⟨Try.underlying49, by kernel_rfl, rfl, by decide, fun _ => rfl, fun x u hu => by
  simp [kpT, pcells] at hu
  rcases hu with rfl | rfl | rfl | rfl <;> rfl⟩

set_option maxRecDepth 100000 in
theorem kclone_one (x : Pt) (p : Addr) (c : Nat) (w : World) (R : RowOf kpT w (some p) [x]) : Calls Try.prog 69 #[.slice (some p) 1 c] w fun e w' => ∃ g cap, e = .returned (.slice (some ⟨g, 0, none⟩) 1 cap) ∧ w.heap.size ≤ g ∧ 1 ≤ cap ∧ cap ≤ maxLen ∧ RowOf kpT w' (some ⟨g, 0, none⟩) [x] ∧ Below w.heap.size w w' := by
  have kE := fun w => Lib.run_eql_slice_some_nil (P := Try.prog) w (t := 49) (e := 102) p 1 c Try.underlying49
  have OM := World.ownsRow_made (size := 4) (e := 102) (base := w.heap.size) w #[] 0 (Nat.le_refl _) (Nat.zero_le _) rfl
  have hb0 : Below w.heap.size w (w.alloc (.cells #[] 102)) := Below.alloc (Below.refl _ _) (Nat.le_refl _) _
  obtain ⟨v', w', hr, O', gr, mv⟩ := append_row kpOk w.heap.size 49 (w.alloc (.cells #[] 102)) _ [] OM (some p) c [x] (RowOf.more R hb0) (by show (0 + 1) * 32 ≤ _; omega) (by unfold maxLen; simp) (by simp)
  have hb1 := hid (Below.grown hb0 gr (by simp) fun k hk => (OM.lt k hk).1)
  rw [List.nil_append] at O'
  rcases O'.form with ⟨hv, h0⟩ | ⟨g, cap, rfl, hg1, hg2, c1, c2⟩
  · cases h0
  · obtain ⟨p2, cap2, he, d1, d2, RO⟩ := O'.open kpOk
    cases he
    have ROh := hid RO
    clear OM hb0 O' gr mv R RO
    go_enter Try.func69, Try.ntmps69
    go_wp2_with (at_builtin; refine Lib.wpList_append_run _ rfl _ _ _ _ rfl _ _ rfl rfl _ _ hr ?_)
    go_ret
    exact ⟨g, cap, rfl, hg1, c1, c2, ROh.out, hb1.out⟩
set_option maxRecDepth 100000 in
theorem kpsort_one (x : Pt) (p : Addr) (c : Nat) (w : World) (R : RowOf kpT w (some p) [x]) : Calls Try.prog 52 #[.slice (some p) 1 c] w fun e w' => ∃ g cap, e = .returned (.slice (some ⟨g, 0, none⟩) 1 cap) ∧ w.heap.size ≤ g ∧ 1 ≤ cap ∧ cap ≤ maxLen ∧ RowOf kpT w' (some ⟨g, 0, none⟩) [x] ∧ Below w.heap.size w w' := by
  have K := hid (kclone_one x p c w R)
  have K2 := hid (fun p c f w => ksortStable p c 1 (Nat.le_refl _) f w)
  clear R
  go_enter Try.func52, Try.ntmps52
  go_wp2_with fail
  refine K.out.mono ?_
  rintro e w1 ⟨g, cap, rfl, h1, h2, h3, R1, hb1⟩
  have E := hid (And.intro h1 (And.intro h2 (And.intro h3 (And.intro R1 hb1))))
  clear K h1 h2 h3 R1 hb1
  go_wp2_with fail
  refine (K2.out _ _ _ _).mono ?_
  rintro e w2 ⟨rfl, hw⟩
  rw [hw]
  clear hw w2 K2
  go_wp2
  go_ret
  exact ⟨g, cap, rfl, E.out.1, E.out.2.1, E.out.2.2.1, E.out.2.2.2.1, E.out.2.2.2.2⟩
set_option maxRecDepth 100000 in
set_option maxHeartbeats 2000000 in
theorem khalve_one (x : Pt) (g cap : Nat) (h1 : 1 ≤ cap) (h2 : cap ≤ maxLen) (w : World) (R : RowOf kpT w (some ⟨g, 0, none⟩) [x]) : Calls Try.prog 54 #[.slice (some ⟨g, 0, none⟩) 1 cap, .int .i64 0] w fun e w' => ∃ p, e = .returned (.pointer (some ⟨p, 0, none⟩)) ∧ w.heap.size ≤ p ∧ Blk w' p #[.int .i64 x.id, .int .u32 x.x, .int .u32 x.y, .string x.d, .pointer none, .pointer none] ∧ Below w.heap.size w w' := by
  have hb1 := (Below.refl w.heap.size w).alloc (Nat.le_refl _) (.cells #[.int .i64 0] 3)
  have BX := Blk.new w #[.int .i64 0] 3
  have R1 := RowOf.more R hb1
  obtain ⟨b, o, e, r⟩ := RowP.row R1 (by simp)
  cases e
  have z0 := r.at0 (i := 0) (by simp) (v := .int .i64 x.id) rfl
  have z1 := r.at1 (i := 0) (by simp) (v := .int .u32 x.x) rfl
  have z2 := r.at2 (i := 0) (by simp) (v := .int .u32 x.y) rfl
  have z3 := r.at3 (i := 0) (by simp) (v := .string x.d) rfl
  have KS := hid (fun f w => ksort1 (some ⟨g, 0, none⟩) cap f w)
  have KH := hid (fun p c d w => khalve_nil p c d w)
  have hc : (1 : Int) ≤ (cap : Int) := by omega
  have hlt := r.lt
  have hb1h := hid hb1
  have BXh := hid BX
  have rh := hid r
  clear R R1
  obtain ⟨lx, kx, fx⟩ := BX
  simp only [Nat.zero_mul, Nat.add_zero, Nat.zero_add] at z0 z1 z2 z3
  go_enter Try.func54, Try.ntmps54
  go_wp2_with fail
  refine (KS.out _ _).mono ?_
  rintro e w1 ⟨rfl, hw⟩
  rw [hw]
  clear hw w1 KS
  go_wp2_with fail
  generalize w.alloc _ = W1 at *
  have q0 := fun u : Later W1 => u.blk BXh.out
  have q1 := fun u : Later W1 => (Later.cell g 0 hlt u).trans z0
  have q2 := fun u : Later W1 => (Later.cell g 1 hlt u).trans z1
  have q3 := fun u : Later W1 => (Later.cell g 2 hlt u).trans z2
  have q4 := fun u : Later W1 => (Later.cell g 3 hlt u).trans z3
  have KU := hid (fun p c d (u : Later W1) => khalve_nil p c d u.val)
  clear KH rh lx kx fx z0 z1 z2 z3
  refine wp_region_late 18 (by kernel_rfl) (by kernel_rfl) ?_
  simp only [List.take_succ_cons, List.take_zero, List.drop_succ_cons, List.drop_zero]
  repeat (go_big_quiet_step (first
      | (go_at_call 54; with_reducible exact late_call (KU.out _ _ _ _))))
  refine wpQuiet_nil ?_
  intro W3 h3'
  have h3 := late_out h3'
  have D3 := hid (below2 hb1h.out h3 hb1h.out.size)
  clear KU q0 q1 q2 q3 q4 h3 h3'
  have D4 := hid (D3.out.alloc D3.out.size (.cells #[.int .i64 x.id, .int .u32 x.x, .int .u32 x.y, .string x.d, .pointer none, .pointer none] 129))
  go_wp2_with fail
  all_goals
    go_ret
    exact ⟨_, rfl, D3.out.size, Blk.new _ _ _, D4.out⟩
set_option maxRecDepth 100000 in
/-- The tree of one point. -/
theorem knew_one (x : Pt) (p : Addr) (c : Nat) (w : World) (R : RowOf kpT w (some p) [x]) : Calls Try.prog 25 #[.slice (some p) 1 c] w fun e w' => ∃ t b, e = .returned (.pointer (some ⟨t, 0, none⟩)) ∧ w.heap.size ≤ t ∧ w.heap.size ≤ b ∧ Blk w' t #[.pointer (some ⟨b, 0, none⟩)] ∧ Blk w' b #[.int .i64 x.id, .int .u32 x.x, .int .u32 x.y, .string x.d, .pointer none, .pointer none] ∧ Below w.heap.size w w' := by
  have KS := hid (kpsort_one x p c w R)
  have KC := hid (fun p c f w => kcompact p c 1 (Nat.le_refl _) f w)
  clear R
  go_enter Try.func25, Try.ntmps25
  go_wp2_with fail
  refine KS.out.mono ?_
  rintro e w1 ⟨g, cap, rfl, h1, h2, h3, R1, hb1⟩
  have KH := hid (khalve_one x g cap h2 h3 w1 R1)
  have D1 := hid hb1
  clear KS h1 h2 h3 R1 hb1
  go_wp2_with fail
  refine (KC.out _ _ _ _).mono ?_
  rintro e w2 ⟨rfl, hw⟩
  rw [hw]
  clear hw w2 KC
  go_wp2_with fail
  refine KH.out.mono ?_
  rintro e w3 ⟨b, rfl, hp, B3, hb3⟩
  have D3 := hid (below2 D1.out hb3 D1.out.size)
  have hpp := hid (Nat.le_trans D1.out.size hp)
  have B4 := hid (B3.more ((Below.refl _ _).alloc (Nat.le_refl _) (.cells #[.pointer (some ⟨b, 0, none⟩)] 74)))
  have D4 := hid (D3.out.alloc D3.out.size (.cells #[.pointer (some ⟨b, 0, none⟩)] 74))
  clear hp B3 hb3 KH
  go_wp2_with fail
  go_ret
  exact ⟨_, b, rfl, D3.out.size, hpp.out, Blk.new _ _ _, B4.out, D4.out⟩
end Go.Proofs.Ytghcfidmhabfhaa
