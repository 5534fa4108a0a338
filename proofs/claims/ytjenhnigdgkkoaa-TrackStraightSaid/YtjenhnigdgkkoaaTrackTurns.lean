/-
  track.Turns: how often a way turns left, and right.
-/
import Derived.Test.YtjenhnigdgkkoaaTrackLegs
namespace Go.Proofs.Ytjenhnigdgkkoaa
open Go.RowKit
set_option linter.unusedVariables false
set_option linter.unusedSimpArgs false

def tnAt (f : Nat → Pt) (i : Nat) : Int := tn (p2 (f i)) (p2 (f (i + 1))) (p2 (f (i + 2)))
theorem tnAt_three (f : Nat → Pt) (i : Nat) : tnAt f i = -1 ∨ tnAt f i = 0 ∨ tnAt f i = 1 := by
  unfold tnAt tn turnI cmpI
  split
  · exact .inl rfl
  · split
    · exact .inr (.inr rfl)
    · exact .inr (.inl rfl)
def lft (f : Nat → Pt) : Nat → Int
  | 0 => 0
  | i + 1 => lft f i + max (tnAt f i) 0
def rgt (f : Nat → Pt) : Nat → Int
  | 0 => 0
  | i + 1 => rgt f i + max (-tnAt f i) 0
theorem lft_bd (f : Nat → Pt) : ∀ i : Nat, 0 ≤ lft f i ∧ lft f i ≤ i
  | 0 => by simp [lft]
  | i + 1 => by have h := lft_bd f i; have t := tnAt_three f i; simp only [lft]; omega
theorem rgt_bd (f : Nat → Pt) : ∀ i : Nat, 0 ≤ rgt f i ∧ rgt f i ≤ i
  | 0 => by simp [rgt]
  | i + 1 => by have h := rgt_bd f i; have t := tnAt_three f i; simp only [rgt]; omega

theorem turn46 (P Q R : Pt) (hP : P.ok) (hQ : Q.ok) (hR : R.ok) (w : World) : Calls Try.prog 21 #[ptv P, ptv Q, ptv R] w fun e w' => e = .returned (.int .i64 (tn (p2 P) (p2 Q) (p2 R))) ∧ Below w.heap.size w w' := by
  unfold Pt.ok at hP hQ hR
  exact polyTurn_any P.id Q.id R.id P.x P.y Q.x Q.y R.x R.y (.string P.d) (.string Q.d) (.string R.d) (by omega) (by omega) (by omega) (by omega) (by omega) (by omega) (by omega) (by omega) (by omega) (by omega) (by omega) (by omega) w

set_option maxRecDepth 100000 in
set_option maxHeartbeats 4000000 in
theorem turns_any (p : Option Addr) (n cap : Nat) (f : Nat → Pt) (hf : ∀ i, (f i).ok) (hn : n ≤ 60) (w : World) (HA : RowP w p 4 n (fun i => pcells (f i))) :
    Calls Try.prog 22 #[.slice p n cap] w fun e w' => e = .returned (.tuple #[.int .i64 (lft f (n - 2)), .int .i64 (rgt f (n - 2))]) ∧ Below w.heap.size w w' := by
  have HAh := hid HA
  have hfh := hid hf
  clear HA hf
  go_enter Try.func22, Try.ntmps22
  go_wp2_with fail
  go_loopw [4, 5, 6] (fun a b i wr => ∃ k : Nat, (k + 2 ≤ n ∨ k = 0) ∧ i = .int .i64 ((k : Int) + 2) ∧ a = .int .i64 (lft f k) ∧ b = .int .i64 (rgt f k) ∧ Below w.heap.size w wr) (fun _ _ i _ => n + 2 - (intOf i).toNat)
  case atStart => exact ⟨0, .inr rfl, rfl, rfl, rfl, Below.refl _ _⟩
  case round =>
    obtain ⟨k, hk, rfl, rfl, rfl, hb⟩ := hrel
    have hl1 := lft_bd f k
    have hr1 := rgt_bd f k
    by_cases hlt : k + 2 < n
    · have hlt1 : (k : Int) + 2 < (n : Int) := by omega
      have hlt2 : (k : Int) + 1 < (n : Int) := by omega
      have hlt3 : (k : Int) < (n : Int) := by omega
      have hq0 : (0 : Int) ≤ (k : Int) := by omega
      have hq2 : ((k : Int) + 2).toNat = k + 2 := by omega
      have hq1 : ((k : Int) + 1).toNat = k + 1 := by omega
      have hs1 : (k : Int) + 2 - 1 = (k : Int) + 1 := by omega
      have hs2 : (k : Int) + 2 - 2 = (k : Int) := by omega
      obtain ⟨b, o, rfl, R0⟩ := HAh.out.row (by omega)
      have R := R0.more hb
      have x0 := R.at0 (i := k) (by omega) (v := .int .i64 (f k).id) rfl
      have x1 := R.at1 (i := k) (by omega) (v := .int .u32 (f k).x) rfl
      have x2 := R.at2 (i := k) (by omega) (v := .int .u32 (f k).y) rfl
      have x3 := R.at3 (i := k) (by omega) (v := .string (f k).d) rfl
      have y0 := R.at0 (i := k + 1) (by omega) (v := .int .i64 (f (k + 1)).id) rfl
      have y1 := R.at1 (i := k + 1) (by omega) (v := .int .u32 (f (k + 1)).x) rfl
      have y2 := R.at2 (i := k + 1) (by omega) (v := .int .u32 (f (k + 1)).y) rfl
      have y3 := R.at3 (i := k + 1) (by omega) (v := .string (f (k + 1)).d) rfl
      have z0 := R.at0 hlt (v := .int .i64 (f (k + 2)).id) rfl
      have z1 := R.at1 hlt (v := .int .u32 (f (k + 2)).x) rfl
      have z2 := R.at2 hlt (v := .int .u32 (f (k + 2)).y) rfl
      have z3 := R.at3 hlt (v := .string (f (k + 2)).d) rfl
      have cc : ∀ (c oo : Nat) (v : Value), wr.cell? ⟨c, oo, none⟩ = some v → ∀ u : Later wr, u.val.cell? ⟨c, oo, none⟩ = some v := fun c oo v hv u => (u.cell c oo (cell_lt hv)).trans hv
      have a0 := cc _ _ _ x0
      have a1 := cc _ _ _ x1
      have a2 := cc _ _ _ x2
      have a3 := cc _ _ _ x3
      have b0 := cc _ _ _ y0
      have b1 := cc _ _ _ y1
      have b2 := cc _ _ _ y2
      have b3 := cc _ _ _ y3
      have c0 := cc _ _ _ z0
      have c1 := cc _ _ _ z1
      have c2 := cc _ _ _ z2
      have c3 := cc _ _ _ z3
      have KT : Hid (∀ w, Calls Try.prog 21 #[.agg #[.int .i64 (f k).id, .int .u32 (f k).x, .int .u32 (f k).y, .string (f k).d], .agg #[.int .i64 (f (k + 1)).id, .int .u32 (f (k + 1)).x, .int .u32 (f (k + 1)).y, .string (f (k + 1)).d], .agg #[.int .i64 (f (k + 2)).id, .int .u32 (f (k + 2)).x, .int .u32 (f (k + 2)).y, .string (f (k + 2)).d]] w fun e w' => e = .returned (.int .i64 (tnAt f k)) ∧ Below w.heap.size w w') :=
        hid (fun w => turn46 (f k) (f (k + 1)) (f (k + 2)) (hfh.out _) (hfh.out _) (hfh.out _) w)
      have hbh := hid hb
      have hL : lft f (k + 1) = lft f k + max (tnAt f k) 0 := rfl
      have hG : rgt f (k + 1) = rgt f k + max (-tnAt f k) 0 := rfl
      have h3 := tnAt_three f k
      generalize lft f k = LL at *
      generalize rgt f k = GG at *
      generalize tnAt f k = t at *
      replace hL := hid hL
      replace hG := hid hG
      clear x0 x1 x2 x3 y0 y1 y2 y3 z0 z1 z2 z3 cc R R0 hb
      rcases h3 with rfl | rfl | rfl
      all_goals
        go_wp2_with fail
        refine wp_region_late 14 (by kernel_rfl) (by kernel_rfl) ?_
        simp only [List.take_succ_cons, List.take_zero, List.drop_succ_cons, List.drop_zero]
        iterate 14 (go_big_quiet_step (fail))
        refine wpQuiet_nil ?_
        intro w3 h3'
        have h3 := late_out h3'
        have hb3 := hid (hbh.out.trans (h3.mono hbh.out.size))
        clear h3 h3' a0 a1 a2 a3 b0 b1 b2 b3 c0 c1 c2 c3
        go_wp2_with fail
        refine (KT.out _).mono ?_
        rintro e w4 ⟨rfl, hb4⟩
        have hb5 := hid (below2 hb3.out hb4 hb3.out.size)
        clear hb4 KT
        go_wp2_with fail
        go_roundw
        case rel => exact ⟨k + 1, .inl (by omega), by go_num, by rw [hL.out]; go_num, by rw [hG.out]; go_num, hb5.out⟩
        case measure => simp [intOf]; omega
    · have hlt1 : ¬ (k : Int) + 2 < (n : Int) := by omega
      have hkn : k = n - 2 := by omega
      have hbh := hid hb
      have hkh := hid hkn
      clear hb hkn
      go_wp2_with fail
      go_ret2
      refine ⟨?_, hbh.out⟩
      rw [← hkh.out]
      rfl
end Go.Proofs.Ytjenhnigdgkkoaa
