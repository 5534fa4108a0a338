/-
  Layer 6: the least window with all points.
-/
import Derived.Test.YtohdhbamdeenlaaRectAreas
import Derived.Test.YtohdhbamdeenlaaSlices
import Derived.Test.YtohdhbamdeenlaaRegionAlloc
import Derived.LoopTactic
namespace Go.Proofs.Ytohdhbamdeenlaa
open Go.RowKit
set_option linter.unusedVariables false
set_option linter.unusedSimpArgs false

def mn (g : Nat → Int) : Nat → Int
  | 0 => g 0
  | k + 1 => min (mn g k) (g (k + 1))
def mx (g : Nat → Int) : Nat → Int
  | 0 => g 0
  | k + 1 => max (mx g k) (g (k + 1))

theorem mn_le (g : Nat → Int) : ∀ k i, i ≤ k → mn g k ≤ g i
  | 0, i, h => by obtain rfl : i = 0 := by omega
                  exact Int.le_refl _
  | k + 1, i, h => by
    unfold mn
    by_cases e : i = k + 1
    · subst e; omega
    · have := mn_le g k i (by omega); omega
theorem mx_ge (g : Nat → Int) : ∀ k i, i ≤ k → g i ≤ mx g k
  | 0, i, h => by obtain rfl : i = 0 := by omega
                  exact Int.le_refl _
  | k + 1, i, h => by
    unfold mx
    by_cases e : i = k + 1
    · subst e; omega
    · have := mx_ge g k i (by omega); omega
theorem mn_at (g : Nat → Int) : ∀ k, ∃ i, i ≤ k ∧ g i = mn g k
  | 0 => ⟨0, Nat.le_refl _, rfl⟩
  | k + 1 => by
    obtain ⟨i, hi, e⟩ := mn_at g k
    unfold mn
    by_cases h : mn g k ≤ g (k + 1)
    · exact ⟨i, by omega, by omega⟩
    · exact ⟨k + 1, Nat.le_refl _, by omega⟩
theorem mx_at (g : Nat → Int) : ∀ k, ∃ i, i ≤ k ∧ g i = mx g k
  | 0 => ⟨0, Nat.le_refl _, rfl⟩
  | k + 1 => by
    obtain ⟨i, hi, e⟩ := mx_at g k
    unfold mx
    by_cases h : mx g k ≤ g (k + 1)
    · exact ⟨k + 1, Nat.le_refl _, by omega⟩
    · exact ⟨i, by omega, by omega⟩

theorem rc_makes (dst : Option Tmp) (ty : TypeId) (pos : String) (af : Array Edge) : Makes Try.prog { dst := dst, op := .alloc 70, type := ty, pos := pos, after := af, guard := none } #[.int .u32 0, .int .u32 0, .int .u32 0, .int .u32 0] :=
  ⟨rfl, _, rfl, fun w => by kernel_rfl⟩

theorem cover_none (p : Option Addr) (cap : Nat) (w : World) :
    Calls Try.prog 46 #[.slice p 0 cap] w fun e w' => e = .returned (.tuple #[rct 0 0 0 0, .bool false]) ∧ Below w.heap.size w w' := by
  go_enter Try.func46, Try.ntmps46
  go_wp2
  refine bodyPost_ret (v := .tuple #[rct 0 0 0 0, .bool false]) (by simp [results, Try.results46, go_sem]) rfl ⟨rfl, ?_⟩
  exact Below.alloc (Below.refl _ _) (Nat.le_refl _) _

set_option maxRecDepth 100000 in
set_option maxHeartbeats 4000000 in
theorem cover_some (b o n cap : Nat) (f : Nat → Pt) (h1 : 1 ≤ n) (hc : n ≤ cap) (hm : cap ≤ maxLen) (w : World) (R : Row w b o 4 n (fun i => pcells (f i))) :
    Calls Try.prog 46 #[.slice (some ⟨b, o, none⟩) n cap] w fun e w' => e = .returned (.tuple #[rct (mn (fun i => (f i).x) (n - 1)) (mn (fun i => (f i).y) (n - 1)) (mx (fun i => (f i).x) (n - 1)) (mx (fun i => (f i).y) (n - 1)), .bool true]) ∧ Below w.heap.size w w' := by
  unfold maxLen at hm
  have k0 := R.at0 (i := 0) (by omega) (v := .int .i64 (f 0).id) rfl
  have k1 := R.at1 (i := 0) (by omega) (v := .int .u32 (f 0).x) rfl
  have k2 := R.at2 (i := 0) (by omega) (v := .int .u32 (f 0).y) rfl
  simp only [Nat.zero_mul, Nat.add_zero] at k0 k1 k2
  have hlt := R.lt
  replace R := hid R
  have hn0 : ((n : Int) == 0) = false := beq_eq_false_iff_ne.2 (by omega)
  go_enter Try.func46, Try.ntmps46
  go_wp2
  generalize hW : w.alloc _ = W
  have B0 := hid (hW ▸ Blk.new w _ _ : Blk W w.heap.size _)
  have H1 : Hid (Below w.heap.size w W) := hid (hW ▸ Below.alloc (Below.refl _ _) (Nat.le_refl _) _)
  have hs : w.heap.size < W.heap.size := B0.out.lt
  have j0 : W.cell? ⟨b, o, none⟩ = some (.int .i64 (f 0).id) := (H1.out.cell (p := ⟨b, o, none⟩) hlt).trans k0
  have j1 : W.cell? ⟨b, o + 1, none⟩ = some (.int .u32 (f 0).x) := (H1.out.cell (p := ⟨b, o + 1, none⟩) hlt).trans k1
  have j2 : W.cell? ⟨b, o + 2, none⟩ = some (.int .u32 (f 0).y) := (H1.out.cell (p := ⟨b, o + 2, none⟩) hlt).trans k2
  clear hW k0 k1 k2
  refine wp_region_late_alloc 17 [#[.int .u32 0, .int .u32 0, .int .u32 0, .int .u32 0]] ?A (by kernel_rfl) (by kernel_rfl) ?hz ?walk ?rest
  case hz =>
    rintro (_ | i) z h
    · simp at h; subst h; exact ⟨_, rfl, rc_makes _ _ _ _⟩
    · simp at h
  case walk =>
    intro S hS hN
    have q1 := fun u : LaterC W S => (LaterC.cell b (o + 1) (by omega) u).trans j1
    have q2 := fun u : LaterC W S => (LaterC.cell b (o + 2) (by omega) u).trans j2
    simp only [List.take_succ_cons, List.take_zero, List.drop_succ_cons, List.drop_zero]
    repeat (go_big_quiet_step (fail))
    refine wpQuiet_nil ?_
    rfl
  case rest =>
    intro β w2 hb2 hnew hne
    obtain ⟨g4, B4⟩ := hnew 0 _ rfl
    simp only [laid, puts, List.range', List.foldl_cons, List.foldl_nil, List.length_cons, List.length_nil, Nat.add_zero] at g4 B4 ⊢
    generalize β 17 = p at *
    have B4' := hid B4
    have A0 := hid (B0.out.more hb2)
    have H2 := hid (below2 H1.out hb2 H1.out.size)
    have R2 := hid ((R.out.more H1.out).more hb2)
    obtain ⟨l4, k4, f4⟩ := B4
    clear hnew hne j0 j1 j2 B0 H1 hb2
    have hw : w.heap.size < p := by have := H2.out.size; omega
    go_wp2_with fail
    all_goals
      generalize hW : World.setCell _ _ _ = W3
      have C3 := hid (show Blk W3 p #[.int .u32 (mn (fun i => (f i).x) 0), .int .u32 (mn (fun i => (f i).y) 0), .int .u32 (mx (fun i => (f i).x) 0), .int .u32 (mx (fun i => (f i).y) 0)] from by rw [← hW]; exact Blk.fill [_, _, _, _] 0 B4'.out (by simp))
      have A3 := hid (show Blk W3 w.heap.size #[.int .u32 0, .int .u32 0, .int .u32 0, .int .u32 0] from by rw [← hW]; exact Blk.past (by omega) [_, _, _, _] 0 A0.out)
      have H3 := hid (show Below w.heap.size w W3 from by rw [← hW]; exact below_fill (by omega) [_, _, _, _] 0 H2.out)
      have R3 := hid (show Row W3 b o 4 n (fun i => pcells (f i)) from R.out.below H3.out hlt)
      clear hW l4 k4 f4 B4' A0 H2 R2
      go_loopw [31] (fun i wr => ∃ k : Nat, k ≤ n - 1 ∧ i = .int .i64 (k : Int) ∧ Blk wr p #[.int .u32 (mn (fun i => (f i).x) k), .int .u32 (mn (fun i => (f i).y) k), .int .u32 (mx (fun i => (f i).x) k), .int .u32 (mx (fun i => (f i).y) k)] ∧ Blk wr w.heap.size #[.int .u32 0, .int .u32 0, .int .u32 0, .int .u32 0] ∧ Row wr b o 4 n (fun i => pcells (f i)) ∧ Below w.heap.size w wr) (fun i _ => n - 1 - (intOf i).toNat)
      case atStart => exact ⟨0, by omega, rfl, C3.out, A3.out, R3.out, H3.out⟩
      case round =>
        clear C3 A3 R3 H3
        obtain ⟨k, hk, rfl, HC, HA, HR, HB⟩ := hrel
        by_cases hlt2 : k < n - 1
        · have eo : o + (k + 1) * 4 = o + 4 + k * 4 := by omega
          have z0 := HR.at0 (i := k + 1) (by omega) (v := .int .i64 (f (k + 1)).id) rfl
          have z1 := HR.at1 (i := k + 1) (by omega) (v := .int .u32 (f (k + 1)).x) rfl
          have z2 := HR.at2 (i := k + 1) (by omega) (v := .int .u32 (f (k + 1)).y) rfl
          have z3 := HR.at3 (i := k + 1) (by omega) (v := .string (f (k + 1)).d) rfl
          rw [eo] at z0 z1 z2 z3
          obtain ⟨l5, k5, f5⟩ := HC
          have HC' := hid (Blk.mk l5 k5 f5)
          replace HA := hid HA
          replace HR := hid HR
          replace HB := hid HB
          clear eo
          go_wp2_with fail
          all_goals
            go_roundw
            case rel =>
              refine ⟨k + 1, by omega, by go_num, ?_, ?_, ?_, ?_⟩
              · exact Blk.alloc (Blk.fill [_, _, _, _] 0 HC'.out (by simp)) _
              · exact Blk.alloc (Blk.past (by omega) [_, _, _, _] 0 HA.out) _
              · exact (HR.out.below (below_fill (Nat.le_refl p) [_, _, _, _] 0 (Below.refl p _)) (by omega)).more (Below.alloc (Below.refl _ _) (Nat.le_refl _) _)
              · exact Below.alloc (below_fill (by omega) [_, _, _, _] 0 HB.out) (by rw [size_setAll]; exact HB.out.size) _
            case measure => simp [intOf]; omega
        · have hk' : k = n - 1 := by omega
          subst hk'
          obtain ⟨l5, k5, f5⟩ := HC
          obtain ⟨l6, k6, f6⟩ := HA
          replace HR := hid HR
          replace HB := hid HB
          go_wp2_with fail
          refine bodyPost_ret (v := .tuple #[rct (mn (fun i => (f i).x) (n - 1)) (mn (fun i => (f i).y) (n - 1)) (mx (fun i => (f i).x) (n - 1)) (mx (fun i => (f i).y) (n - 1)), .bool true]) ?_ rfl ⟨rfl, ?_⟩
          · simp [results, Try.results46, go_sem, k6]
          · exact below_fill (Nat.le_refl _) [_, _, _, _] 0 HB.out
end Go.Proofs.Ytohdhbamdeenlaa
