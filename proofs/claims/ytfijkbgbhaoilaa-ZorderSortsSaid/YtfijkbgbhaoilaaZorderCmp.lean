/-
  Package zorder: compare, Less, Sort; the law's own order.
-/
import Derived.Test.YtfijkbgbhaoilaaZorderFns
import Derived.Test.YtfijkbgbhaoilaaStrCmp
import Derived.Test.YtfijkbgbhaoilaaOrThree
import Derived.Test.YtfijkbgbhaoilaaPtSort
namespace Go.Proofs.Ytfijkbgbhaoilaa
open Go.RowKit
set_option linter.unusedVariables false
set_option linter.unusedSimpArgs false

def jZ (p : Pt) : Nat := joinN p.x.toNat p.y.toNat
/-- By place in one row, then by Id, then by Data. -/
def ltZ (x y : Pt) : Bool := decide (jZ x < jZ y) || (jZ x == jZ y && (decide (x.id < y.id) || (x.id == y.id && slB x.d y.d)))
def cfZ (x y : Pt) : Int := or3I (cmpI (jZ x : Int) (jZ y : Int)) (cmpI x.id y.id) (cmpS x.d y.d)
theorem cmpI_cases (a b : Int) : (a < b ∧ cmpI a b = -1) ∨ (b < a ∧ cmpI a b = 1) ∨ (a = b ∧ cmpI a b = 0) := by unfold cmpI; split <;> (try split) <;> omega
theorem cfZ_lt (x y : Pt) : decide (cfZ x y < 0) = ltZ x y := by
  unfold cfZ ltZ or3I orI
  rcases cmpI_cases (jZ x : Int) (jZ y : Int) with ⟨h, e⟩ | ⟨h, e⟩ | ⟨h, e⟩
  · have h' : jZ x < jZ y := by omega
    rw [e]; simp [h']
  · have h1 : ¬ jZ x < jZ y := by omega
    have h2 : ¬ jZ x = jZ y := by omega
    rw [e]; simp [h1, h2]
  · have h1 : ¬ jZ x < jZ y := by omega
    have h2 : jZ x = jZ y := by omega
    rw [e]
    rcases cmpI_cases x.id y.id with ⟨k, e'⟩ | ⟨k, e'⟩ | ⟨k, e'⟩
    · rw [e']; simp [h1, h2, k]
    · have k1 : ¬ x.id < y.id := by omega
      have k2 : ¬ x.id = y.id := by omega
      rw [e']; simp [h1, h2, k1, k2]
    · have k1 : ¬ x.id < y.id := by omega
      rw [e']
      unfold cmpS
      cases h3 : slB x.d y.d
      · cases h4 : slB y.d x.d <;> simp [h1, h2, k]
      · simp [h1, h2, k]
theorem ltZ_iff (x y : Pt) : ltZ x y = true ↔ (jZ x < jZ y ∨ jZ x = jZ y ∧ (x.id < y.id ∨ x.id = y.id ∧ slB x.d y.d = true)) := by simp [ltZ]
theorem ltZ_no (x y : Pt) : ltZ x y = false ↔ (jZ y < jZ x ∨ jZ x = jZ y ∧ (y.id < x.id ∨ x.id = y.id ∧ slB x.d y.d = false)) := by
  rw [← Bool.not_eq_true, ltZ_iff]
  cases h : slB x.d y.d <;> simp <;> omega
theorem weak_z : Weak ltZ := by
  refine ⟨fun x => ?_, fun x y z h k => ?_, fun x y z h k => ?_⟩
  · rw [ltZ_no]; exact .inr ⟨rfl, .inr ⟨rfl, slB_irr _⟩⟩
  · rw [ltZ_iff] at *
    rcases h with h | ⟨h, h'⟩
    · rcases k with k | ⟨k, _⟩ <;> exact .inl (by omega)
    · rcases k with k | ⟨k, k'⟩
      · exact .inl (by omega)
      · refine .inr ⟨by omega, ?_⟩
        rcases h' with h' | ⟨h', h''⟩
        · rcases k' with k' | ⟨k', _⟩ <;> exact .inl (by omega)
        · rcases k' with k' | ⟨k', k''⟩
          · exact .inl (by omega)
          · exact .inr ⟨by omega, slB_tr h'' k''⟩
  · rw [ltZ_no] at *
    rcases h with h | ⟨h, h'⟩
    · rcases k with k | ⟨k, _⟩ <;> exact .inl (by omega)
    · rcases k with k | ⟨k, k'⟩
      · exact .inl (by omega)
      · refine .inr ⟨by omega, ?_⟩
        rcases h' with h' | ⟨h', h''⟩
        · rcases k' with k' | ⟨k', _⟩ <;> exact .inl (by omega)
        · rcases k' with k' | ⟨k', k''⟩
          · exact .inl (by omega)
          · refine .inr ⟨by omega, ?_⟩
            cases e : slB x.d z.d
            · rfl
            · exfalso
              cases e1 : slB y.d x.d
              · have := bl_tot _ _ h'' e1
                unfold slB at e k''
                rw [this] at e
                rw [e] at k''; cases k''
              · have := slB_tr e1 e
                rw [this] at k''; cases k''
theorem ltZ_eq : ltC cfZ = ltZ := by funext x y; exact cfZ_lt x y

theorem join_pt (p : Pt) (hp : p.ok) (w : World) : Calls Try.prog 14 #[.int .u32 p.x, .int .u32 p.y] w fun e w' => e = .returned (.int .u64 ((jZ p : Nat) : Int)) ∧ Below w.heap.size w w' := by
  obtain ⟨_, _, h1, h2, h3, h4, _⟩ := hp
  have h := join_nat p.x.toNat p.y.toNat (by omega) (by omega) w
  rw [show ((p.x.toNat : Nat) : Int) = p.x by omega, show ((p.y.toNat : Nat) : Int) = p.y by omega] at h
  exact h
theorem jZ_bd (p : Pt) : ((jZ p : Nat) : Int) ≤ 18446744073709551615 := by
  have := join_lt (x := p.x.toNat) (y := p.y.toNat)
  unfold jZ
  omega

set_option maxRecDepth 100000 in
set_option maxHeartbeats 4000000 in
theorem zcmp_any (x y : Pt) (hx : x.ok) (hy : y.ok) (w : World) : Calls Try.prog 16 #[.agg #[.int .i64 x.id, .int .u32 x.x, .int .u32 x.y, .string x.d], .agg #[.int .i64 y.id, .int .u32 y.x, .int .u32 y.y, .string y.d]] w fun e w' => e = .returned (.int .i64 (cfZ x y)) ∧ Below w.heap.size w w' := by
  have K0 := hid (fun w => join_pt x hx w)
  have K1 := hid (fun w => join_pt y hy w)
  have K2 := hid (fun w => compare_u64 (jZ x : Int) (jZ y : Int) w)
  have K3 := hid (fun w => cmpi_any x.id y.id w)
  have K4 := hid (fun w => cmps_any x.d y.d w)
  have K5 := hid (fun b o w c0 c1 c2 => or3 (cmpI (jZ x : Int) (jZ y : Int)) (cmpI x.id y.id) (cmpS x.d y.d) b o w c0 c1 c2)
  unfold cfZ
  generalize cmpI (jZ x : Int) (jZ y : Int) = d0 at *
  generalize cmpI x.id y.id = d1 at *
  generalize cmpS x.d y.d = d2 at *
  generalize or3I d0 d1 d2 = d at *
  generalize ((jZ x : Nat) : Int) = j0 at *
  generalize ((jZ y : Nat) : Int) = j1 at *
  obtain ⟨xi, xx, xy, xd⟩ := x
  obtain ⟨yi, yx, yy, yd⟩ := y
  obtain ⟨B0, B1, H⟩ := @boxed2 w _ #[.int .i64 xi, .int .u32 xx, .int .u32 xy, .string xd] #[.int .i64 yi, .int .u32 yx, .int .u32 yy, .string yd] 27 27 (Below.refl _ _)
  have hH := hid H
  simp only at K0 K1 K2 K3 K4 ⊢
  clear hx hy
  go_enter Try.func16, Try.ntmps16
  go_wp2_with fail
  generalize (w.alloc (.cells #[.int .i64 xi, .int .u32 xx, .int .u32 xy, .string xd] 27)).alloc (.cells #[.int .i64 yi, .int .u32 yx, .int .u32 yy, .string yd] 27) = W at *
  have q0 := fun u : Later W => u.blk B0
  have q1 := fun u : Later W => u.blk B1
  clear B0 B1 H
  refine wp_region_late 21 (by kernel_rfl) (by kernel_rfl) ?_
  simp only [List.take_succ_cons, List.take_zero, List.drop_succ_cons, List.drop_zero]
  iterate 21 (go_big_quiet_step (first | (go_at_call 14; first | (with_reducible exact late_call (K0.out _)) | (with_reducible exact late_call (K1.out _))) | (go_at_call 28; (with_reducible exact late_same (K2.out _))) | (go_at_call 22; (with_reducible exact late_same (K3.out _))) | (go_at_call 29; (with_reducible exact late_same (K4.out _)))))
  refine wpQuiet_nil ?_
  intro w3 h3'
  have h3 := hid (late_out h3')
  clear h3' q0 q1
  go_wp2_with (go_at_call 27; refine (K5.out _ _ _ (by go_simp) (by go_simp) (by go_simp)).mono ?_; rintro e w' ⟨rfl, rfl⟩)
  go_ret
  exact ⟨rfl, below2 hH.out (below2 h3.out ((Below.refl _ _).alloc (Nat.le_refl _) _) h3.out.size) hH.out.size⟩
theorem cmpF_z (b : Nat) : CmpF 16 #[] (fun _ => True) b cfZ Pt.ok :=
  ⟨enters_of Try.func16 (by kernel_rfl) rfl, fun x y hx hy w _ => by rw [Array.append_empty]; exact zcmp_any x y hx hy w, fun _ _ _ _ => trivial, by
    have := weak_z
    rw [← ltZ_eq] at this
    exact this⟩

set_option maxRecDepth 100000 in
theorem zless_any (x y : Pt) (hx : x.ok) (hy : y.ok) (w : World) : Calls Try.prog 7 #[.agg #[.int .i64 x.id, .int .u32 x.x, .int .u32 x.y, .string x.d], .agg #[.int .i64 y.id, .int .u32 y.x, .int .u32 y.y, .string y.d]] w fun e w' => e = .returned (.bool (ltZ x y)) ∧ Below w.heap.size w w' := by
  have K0 := hid (fun w => zcmp_any x y hx hy w)
  have hc := cfZ_lt x y
  generalize cfZ x y = c at *
  obtain ⟨B0, B1, H⟩ := @boxed2 w _ #[.int .i64 x.id, .int .u32 x.x, .int .u32 x.y, .string x.d] #[.int .i64 y.id, .int .u32 y.x, .int .u32 y.y, .string y.d] 27 27 (Below.refl _ _)
  have hH := hid H
  rw [← hc]
  clear hc hx hy
  obtain ⟨l0, k0, f0⟩ := B0
  obtain ⟨l1, k1, f1⟩ := B1
  go_enter Try.func7, Try.ntmps7
  go_wp2_with fail
  refine (K0.out _).mono ?_
  rintro e w1 ⟨rfl, hb⟩
  have E := hid (below2 hH.out hb hH.out.size)
  clear hb K0
  go_wp2
  go_ret
  exact ⟨rfl, E.out⟩

set_option maxRecDepth 100000 in
theorem zsort_any (p : Option Addr) (n cap : Nat) (f : Nat → Pt) (hok : ∀ i, (f i).ok) (hn : n ≤ 4398046511104) (w : World) (R : RowP w p 4 n (fun i => pcells (f i))) :
    Calls Try.prog 9 #[.slice p n cap] w fun e w' => ∃ q c, e = .returned (.slice q n c) ∧ RowOwn gpT w' w.heap.size (.slice q n c) (stS ltZ (ptL n f)) ∧ Below w.heap.size w w' := by
  have KC := hid (gclone_pts p n cap f (by omega) w R)
  have hnh := hid hn
  have hokh := hid hok
  clear R hn hok
  go_enter Try.func9, Try.ntmps9
  go_wp2_with fail
  refine KC.out.mono ?_
  rintro e w1 ⟨q, c, rfl, O, hb⟩
  rcases RowOwn.form O with ⟨hv, hl⟩ | ⟨g, c', hv, hg, hgs, hc1, hc2⟩
  · obtain rfl : n = 0 := by have := congrArg List.length hl; rw [ptL_len] at this; exact this
    have KN := hid (fun fv => sortStable_nil q c fv w1)
    have Oh := hid (show RowOwn gpT w1 w.heap.size (.slice q 0 c) (stS ltZ (ptL 0 f)) by
      have e : ptL 0 f = [] := rfl
      rw [e, stS_nil, ← e]
      exact O)
    have hbh := hid hb
    clear O hb hv hl KC
    go_wp2_with fail
    refine (KN.out _).mono ?_
    rintro e w2 ⟨rfl, hw⟩
    rw [hw]
    clear hw w2 KN
    go_wp2
    go_ret
    exact ⟨q, c, rfl, Oh.out, hbh.out⟩
  · rw [ptL_len] at hv
    cases hv
    have KS := hid (sortStable_any w.heap.size g n c 16 #[] (fun _ => True) cfZ Pt.ok (cmpF_z g) (by have := hnh.out; omega) f hokh.out w1 trivial O)
    have hbh := hid hb
    have hgh := hid hg
    clear O hb hc1 hc2 hg hgs KC
    go_wp2_with fail
    refine KS.out.mono ?_
    rintro e w2 ⟨rfl, O2, S2⟩
    have O2h := hid (show RowOwn gpT w2 w.heap.size (.slice (some ⟨g, 0, none⟩) n c) (stS ltZ (ptL n f)) by rw [← ltZ_eq]; exact O2)
    have B2 := hid (hbh.out.trans (S2.below hbh.out.size fun k e => by rw [e]; exact hgh.out))
    clear O2 S2 KS
    go_wp2
    go_ret
    exact ⟨_, c, rfl, O2h.out, B2.out⟩
end Go.Proofs.Ytfijkbgbhaoilaa
