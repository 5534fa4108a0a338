/-
  Layer 6: the least window with all points has each, and each of its sides one. The walk of RectCovers.
-/
import Derived.Test.YtohdhbamdeenlaaRectCover
import Derived.Test.YtohdhbamdeenlaaRectLaw
import Derived.BigRegion
import Derived.RegionTactic
import Derived.Deep.DeepCutAuto
namespace Go.Proofs.Ytohdhbamdeenlaa
open Go.RowKit
set_option linter.unusedVariables false
set_option linter.unusedSimpArgs false

/-- Has one of the first k this number? -/
def anyB (g : Nat → Int) (a : Int) : Nat → Bool
  | 0 => false
  | k + 1 => anyB g a k || (g k == a)
theorem anyB_of {g : Nat → Int} {a : Int} {i : Nat} (h : g i = a) : ∀ k, i < k → anyB g a k = true
  | 0, hk => absurd hk (Nat.not_lt_zero _)
  | k + 1, hk => by
    unfold anyB
    by_cases e : i = k
    · subst e; simp [h]
    · rw [anyB_of h k (by omega)]; rfl

@[go_sem high] theorem four_eql (w : World) : (binOp .eql 83 (.agg #[.bool true, .bool true, .bool true, .bool true]) (.agg #[.bool true, .bool true, .bool true, .bool true])).run Try.prog w = .ok (.bool true) w := by kernel_rfl
@[go_sem high] theorem four_build (w : World) : (Instr.build 83 #[(0, .bool true), (1, .bool true), (2, .bool true), (3, .bool true)]).run Try.prog w = .ok (.agg #[.bool true, .bool true, .bool true, .bool true]) w := by kernel_rfl

set_option maxRecDepth 100000 in
set_option maxHeartbeats 16000000 in
theorem rectCovers_some (b o n cap : Nat) (f : Nat → Pt) (h1 : 1 ≤ n) (hc : n ≤ cap) (hm : cap ≤ maxLen) (w : World) (R : Row w b o 4 n (fun i => pcells (f i))) :
    Calls Try.prog 11 #[.slice (some ⟨b, o, none⟩) n cap] w fun e w' => e = .returned (.bool true) ∧ Below w.heap.size w w' := by
  have KC := hid (fun w R => cover_some b o n cap f h1 hc hm w R)
  have hL : ∀ a b c d x y, hasB a b c d x y = true → ∀ w : World, Calls Try.prog 47 #[rct a b c d, .int .u32 x, .int .u32 y] w fun e w' => e = .returned (.bool true) ∧ Below w.heap.size w w' := by
    intro a b c d x y e w
    have := lawhas_any a b c d x y w
    rwa [e] at this
  have KL := hid hL
  clear hL
  have bX0 := hid (fun i (hi : i < n) => mn_le (fun i => (f i).x) (n - 1) i (by omega))
  have bY0 := hid (fun i (hi : i < n) => mn_le (fun i => (f i).y) (n - 1) i (by omega))
  have bX1 := hid (fun i (hi : i < n) => mx_ge (fun i => (f i).x) (n - 1) i (by omega))
  have bY1 := hid (fun i (hi : i < n) => mx_ge (fun i => (f i).y) (n - 1) i (by omega))
  have aX0 := hid (mn_at (fun i => (f i).x) (n - 1))
  have aY0 := hid (mn_at (fun i => (f i).y) (n - 1))
  have aX1 := hid (mx_at (fun i => (f i).x) (n - 1))
  have aY1 := hid (mx_at (fun i => (f i).y) (n - 1))
  generalize mn (fun i => (f i).x) (n - 1) = X0 at *
  generalize mn (fun i => (f i).y) (n - 1) = Y0 at *
  generalize mx (fun i => (f i).x) (n - 1) = X1 at *
  generalize mx (fun i => (f i).y) (n - 1) = Y1 at *
  have hlt := R.lt
  replace R := hid R
  unfold maxLen at hm
  have hn0 : ((n : Int) == 0) = false := beq_eq_false_iff_ne.2 (by omega)
  go_enter Try.func11, Try.ntmps11
  go_wp2_with fail
  refine (alive6 _).mono ?_
  rintro e w1 ⟨rfl, hb1⟩
  have R1 := hid (R.out.more hb1)
  have H1 := hid hb1
  clear hb1
  go_wp2_with fail
  refine (KC.out _ R1.out).mono ?_
  rintro e w2 ⟨rfl, hb2⟩
  have R2 := hid (R1.out.more hb2)
  have H2 := hid (below2 H1.out hb2 H1.out.size)
  clear hb2 R1 H1
  go_upto_if 16 with (fail)
  have B3 := hid (Blk.new w2 #[.int .u32 X0, .int .u32 Y0, .int .u32 X1, .int .u32 Y1] 70)
  have hb3 : Below w2.heap.size w2 (w2.alloc (.cells #[.int .u32 X0, .int .u32 Y0, .int .u32 X1, .int .u32 Y1] 70)) := Below.alloc (Below.refl _ _) (Nat.le_refl _) _
  have R3 := hid (R2.out.more hb3)
  have H3 := hid (below2 H2.out hb3 H2.out.size)
  have hsz := H2.out.size
  generalize w2.alloc (.cells #[.int .u32 X0, .int .u32 Y0, .int .u32 X1, .int .u32 Y1] 70) = w3 at *
  generalize w2.heap.size = b3 at *
  clear hb3 R2 H2
  go_wp2_with fail
  have S3 := hid (show Blk (w3.alloc (.cells #[.bool false, .bool false, .bool false, .bool false] 83)) w3.heap.size #[.bool (anyB (fun i => (f i).x) X0 0), .bool (anyB (fun i => (f i).x) X1 0), .bool (anyB (fun i => (f i).y) Y0 0), .bool (anyB (fun i => (f i).y) Y1 0)] from Blk.new w3 _ _)
  have hb4 : Below w3.heap.size w3 (w3.alloc (.cells #[.bool false, .bool false, .bool false, .bool false] 83)) := Below.alloc (Below.refl _ _) (Nat.le_refl _) _
  have R4 := hid (R3.out.more hb4)
  have B4 := hid (B3.out.more hb4)
  have H4 := hid (below2 H3.out hb4 H3.out.size)
  have hb3 : b3 < w3.heap.size := B3.out.lt
  have hs3 := H3.out.size
  generalize w3.alloc (.cells #[.bool false, .bool false, .bool false, .bool false] 83) = w4 at *
  generalize w3.heap.size = b4 at *
  clear hb4 R3 B3 H3
  go_loopw [6] (fun i wr => ∃ k : Nat, k ≤ n ∧ i = .int .i64 (k : Int) ∧ Blk wr b4 #[.bool (anyB (fun i => (f i).x) X0 k), .bool (anyB (fun i => (f i).x) X1 k), .bool (anyB (fun i => (f i).y) Y0 k), .bool (anyB (fun i => (f i).y) Y1 k)] ∧ Blk wr b3 #[.int .u32 X0, .int .u32 Y0, .int .u32 X1, .int .u32 Y1] ∧ Row wr b o 4 n (fun i => pcells (f i)) ∧ Below w.heap.size w wr) (fun i _ => n - (intOf i).toNat)
  case atStart => exact ⟨0, by omega, rfl, S3.out, B4.out, R4.out, H4.out⟩
  case round =>
    clear S3 B4 R4 H4
    obtain ⟨k, hk, rfl, HS, HB, HR, H⟩ := hrel
    by_cases hk2 : k < n
    · have z1 := HR.at1 (i := k) (by omega) (v := .int .u32 (f k).x) rfl
      have z2 := HR.at2 (i := k) (by omega) (v := .int .u32 (f k).y) rfl
      have hbw := HR.lt
      have hbs := HS.lt
      have hbb := HB.lt
      have x0 := bX0.out k hk2
      have x1 := bX1.out k hk2
      have y0 := bY0.out k hk2
      have y1 := bY1.out k hk2
      have HH : hasB X0 Y0 X1 Y1 (f k).x (f k).y = true := by simp [hasB]; omega
      have KL2 := hid (KL.out _ _ _ _ _ _ HH)
      replace HS := hid HS
      replace HB := hid HB
      replace HR := hid HR
      replace H := hid H
      clear HH x0 x1 y0 y1
      go_wp2_with fail
      have q1 := fun u : Later wr => (Later.cell b (o + k * 4 + 1) hbw u).trans z1
      have q2 := fun u : Later wr => (Later.cell b (o + k * 4 + 2) hbw u).trans z2
      have q3 := fun u : Later wr => u.blk HB.out
      refine wp_region_late 12 (by kernel_rfl) (by kernel_rfl) ?_
      simp only [List.take_succ_cons, List.take_zero, List.drop_succ_cons, List.drop_zero]
      repeat (go_big_quiet_step ((go_at_call 47; (with_reducible exact late_call (KL2.out _)))))
      refine wpQuiet_nil ?_
      intro v1 g1
      have g1 := late_out g1
      have HR1 := hid (HR.out.more g1)
      have HB1 := hid (HB.out.more g1)
      have HS1 := hid (HS.out.more g1)
      have G1 := hid (below2 H.out g1 H.out.size)
      clear HR HB HS H g1 q1 q2 q3 z1 z2
      have e0 : anyB (fun i => (f i).x) X0 (k + 1) = (anyB (fun i => (f i).x) X0 k || ((f k).x == X0)) := rfl
      have e1 : anyB (fun i => (f i).x) X1 (k + 1) = (anyB (fun i => (f i).x) X1 k || ((f k).x == X1)) := rfl
      have e2 : anyB (fun i => (f i).y) Y0 (k + 1) = (anyB (fun i => (f i).y) Y0 k || ((f k).y == Y0)) := rfl
      have e3 : anyB (fun i => (f i).y) Y1 (k + 1) = (anyB (fun i => (f i).y) Y1 k || ((f k).y == Y1)) := rfl
      generalize anyB (fun i => (f i).x) X0 k = s0 at *
      generalize anyB (fun i => (f i).x) X1 k = s1 at *
      generalize anyB (fun i => (f i).y) Y0 k = s2 at *
      generalize anyB (fun i => (f i).y) Y1 k = s3 at *
      replace e0 := hid e0
      replace e1 := hid e1
      replace e2 := hid e2
      replace e3 := hid e3
      go_upto_region 12 with (fail)
      go_cut [6] (fun s6 wx => s6 = .int .i64 (k : Int) ∧ Blk wx b4 #[.bool (s0 || ((f k).x == X0)), .bool (s1 || ((f k).x == X1)), .bool s2, .bool s3] ∧ Blk wx b3 #[.int .u32 X0, .int .u32 Y0, .int .u32 X1, .int .u32 Y1] ∧ Row wx b o 4 n (fun i => pcells (f i)) ∧ Below w.heap.size w wx)
      case first =>
        have z1 := HR1.out.at1 (i := k) (by omega) (v := .int .u32 (f k).x) rfl
        obtain ⟨l0, k0, f0⟩ := HB1.out
        obtain ⟨l1, k1, f1⟩ := HS1.out
        cases s0 <;> cases s1
        all_goals
          go_region
          go_wp2_with fail
          go_meet
          case rel => exact ⟨rfl, Blk.drew (Blk.fill [_, _] 0 HS1.out (by simp)), Blk.drew (Blk.past (by omega) [_, _] 0 HB1.out), HR1.out.below (Below.drew (below_fill (Nat.le_refl b4) [_, _] 0 (Below.refl b4 _))) (by omega), Below.drew (below_fill (by omega) [_, _] 0 G1.out)⟩
      case rest =>
        obtain ⟨rfl, HS2, HB2, HR2, G2⟩ := hcut
        replace HS2 := hid HS2
        replace HB2 := hid HB2
        replace HR2 := hid HR2
        replace G2 := hid G2
        clear HS1 HB1 HR1 G1
        go_upto_region 13 with (fail)
        have z2 := HR2.out.at2 (i := k) (by omega) (v := .int .u32 (f k).y) rfl
        obtain ⟨l0, k0, f0⟩ := HB2.out
        obtain ⟨l1, k1, f1⟩ := HS2.out
        cases s2 <;> cases s3
        all_goals
          go_region
          go_wp2_with fail
          go_roundw
          case rel => exact ⟨k + 1, by omega, by go_num, by rw [e0.out, e1.out, e2.out, e3.out]; exact Blk.drew (Blk.fill [_, _] 2 HS2.out (by simp)), Blk.drew (Blk.past (by omega) [_, _] 2 HB2.out), HR2.out.below (Below.drew (below_fill (Nat.le_refl b4) [_, _] 2 (Below.refl b4 _))) (by omega), Below.drew (below_fill (by omega) [_, _] 2 G2.out)⟩
          case measure => simp [intOf]; omega
    · have hkn : k = n := by omega
      subst hkn
      have t0 : anyB (fun i => (f i).x) X0 k = true := by obtain ⟨i, hi, e⟩ := aX0.out; exact anyB_of e k (by omega)
      have t1 : anyB (fun i => (f i).x) X1 k = true := by obtain ⟨i, hi, e⟩ := aX1.out; exact anyB_of e k (by omega)
      have t2 : anyB (fun i => (f i).y) Y0 k = true := by obtain ⟨i, hi, e⟩ := aY0.out; exact anyB_of e k (by omega)
      have t3 : anyB (fun i => (f i).y) Y1 k = true := by obtain ⟨i, hi, e⟩ := aY1.out; exact anyB_of e k (by omega)
      rw [t0, t1, t2, t3] at HS
      replace H := hid H
      clear HR HB t0 t1 t2 t3
      obtain ⟨l0, k0, f0⟩ := HS
      go_wp2
      go_ret
      exact ⟨rfl, H.out⟩

theorem rectCovers_none (p : Option Addr) (cap : Nat) (w : World) :
    Calls Try.prog 11 #[.slice p 0 cap] w fun e w' => e = .returned (.bool true) ∧ Below w.heap.size w w' := by
  have ez : eq4 0 0 0 0 0 0 0 0 = true := by simp [eq4]
  go_enter Try.func11, Try.ntmps11
  go_wp2_with fail
  refine (alive6 _).mono ?_
  rintro e w1 ⟨rfl, hb1⟩
  have H1 := hid hb1
  clear hb1
  go_wp2_with fail
  refine (cover_none _ _ _).mono ?_
  rintro e w2 ⟨rfl, hb2⟩
  have H2 := hid (below2 H1.out hb2 H1.out.size)
  clear hb2 H1
  go_wp2
  go_ret
  exact ⟨by simp, Below.alloc H2.out H2.out.size _⟩

theorem rectCovers {v : Value} {n : Nat} {f : Nat → Pt} (w : World) (h : Sl w 4 v n (fun i => pcells (f i))) :
    Calls Try.prog 11 #[v] w fun e w' => e = .returned (.bool true) ∧ Below w.heap.size w w' := by
  rcases h.ways with ⟨rfl, p, cap, rfl, hm⟩ | ⟨h1, b, o, cap, rfl, hc, hm, R⟩
  · exact rectCovers_none p cap w
  · exact rectCovers_some b o n cap f h1 hc hm w R
end Go.Proofs.Ytohdhbamdeenlaa
