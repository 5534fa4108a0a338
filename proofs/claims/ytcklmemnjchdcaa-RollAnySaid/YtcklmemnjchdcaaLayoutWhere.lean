/-
  Where a sector is: the search through the segments, and what it finds.
-/
import Derived.Test.YtcklmemnjchdcaaLayout
import Derived.LoopTactic
namespace Go.Proofs.Ytcklmemnjchdcaa
open Go.RowKit
set_option linter.unusedVariables false

theorem quot_lt {s z m : Int} (hz : 0 < z) : (s < 9 + (m + 1) * z) ↔ (s - 9) / z ≤ m := by
  have h : (s - 9) / z < m + 1 ↔ s - 9 < (m + 1) * z := Int.ediv_lt_iff_lt_mul hz
  omega

theorem where1 (s z m : Int) (hm : 0 ≤ m) (hm' : m < 32) (hz : 4 ≤ z) (hz' : z ≤ 32) (bs bg : Nat) (w : World) (cs : w.cell? ⟨bs, 0, none⟩ = some (.int .i64 s)) (cg : w.cell? ⟨bg, 1, none⟩ = some (.int .i64 z)) :
    Calls Try.prog 36 #[.int .i64 m, .pointer (some ⟨bs, 0, none⟩), .pointer (some ⟨bg, 0, none⟩)] w fun e w' => e = .returned (.bool (decide ((s - 9) / z ≤ m))) ∧ w' = w := by
  have b := mul_in (k := m + 1) (z := z) (by omega) (by omega) hz hz'
  have m1 : IntKind.i64.wrap ((m + 1) * z) = (m + 1) * z := IntWalk.i64_in _ (by omega)
  have m2 : IntKind.i64.wrap (9 + (m + 1) * z) = 9 + (m + 1) * z := IntWalk.i64_in _ (by omega)
  have e : decide (s < 9 + (m + 1) * z) = decide ((s - 9) / z ≤ m) := decide_eq_decide.2 (quot_lt (by omega))
  rw [← e]
  clear e b
  go_enter Try.func36, Try.ntmps36
  go_wp2
  go_ret
  exact ⟨rfl, rfl⟩

set_option maxHeartbeats 2000000 in
theorem search_any (n s z : Int) (hn : 0 ≤ n) (hn' : n ≤ 32) (hz : 4 ≤ z) (hz' : z ≤ 32) (hq : 0 ≤ (s - 9) / z) (hq' : (s - 9) / z ≤ n) (bs bg : Nat) (w : World) (cs : w.cell? ⟨bs, 0, none⟩ = some (.int .i64 s)) (cg : w.cell? ⟨bg, 1, none⟩ = some (.int .i64 z)) :
    Calls Try.prog 35 #[.int .i64 n, .func (.func 36) #[] #[.pointer (some ⟨bs, 0, none⟩), .pointer (some ⟨bg, 0, none⟩)]] w fun e w' => e = .returned (.int .i64 ((s - 9) / z)) ∧ w' = w := by
  have K := hid (fun m hm hm' => where1 s z m hm hm' hz hz' bs bg w cs cg)
  generalize (s - 9) / z = q at *
  clear cs cg hz hz'
  go_enter Try.func35, Try.ntmps35
  go_wp2
  go_loop [5, 6] (fun i j => ∃ a b : Int, i = .int .i64 a ∧ j = .int .i64 b ∧ 0 ≤ a ∧ a ≤ q ∧ q ≤ b ∧ b ≤ n) (fun i j => (intOf j - intOf i).toNat)
  case atStart => exact ⟨0, n, rfl, rfl, by omega, by omega, by omega, by omega⟩
  case round =>
    obtain ⟨a, b, rfl, rfl, h1, h2, h3, h4⟩ := hrel
    by_cases hlt : a < b
    · cases hd : decide (q ≤ (a + b) / 2)
      all_goals
        first
          | (have hd' : q ≤ (a + b) / 2 := of_decide_eq_true hd)
          | (have hd' : (a + b) / 2 < q := by have := of_decide_eq_false hd; omega)
        go_wp2_with fail
        refine (K.out _ (by omega) (by omega)).mono ?_
        rintro e w1 ⟨rfl, rfl⟩
        rw [hd]
        clear hd
        go_wp2
        go_round
        case measure => simp [intOf]; omega
      case rel => exact ⟨(a + b) / 2 + 1, b, rfl, rfl, by omega, by omega, by omega, by omega⟩
      case rel => exact ⟨a, (a + b) / 2, rfl, rfl, by omega, by omega, by omega, by omega⟩
    · go_wp2
      go_ret
      exact ⟨ret_int (by omega), rfl⟩

def whB (n z s : Int) : Bool := okB n z && decide (9 ≤ s) && decide (s < 9 + n * z)
def whQ (n z s : Int) : Int := if whB n z s = true then (s - 9) / z else 0
def whR (n z s : Int) : Int := if whB n z s = true then (s - 9) % z else 0

theorem wh_ways (n z s : Int) : (whB n z s = true ∧ okB n z = true ∧ ¬ s < 9 ∧ ¬ secI n z ≤ s) ∨ (whB n z s = false ∧ s < 9) ∨ (whB n z s = false ∧ ¬ s < 9 ∧ secI n z ≤ s) := by
  unfold whB secI
  cases h : okB n z
  · have e : (false && decide (9 ≤ s) && decide (s < 9 + n * z)) = false := by simp
    have e2 : (if false = true then 9 + n * z else 0) = (0 : Int) := if_neg (by simp)
    rw [e, e2]
    simp only [Bool.false_eq_true, false_and, true_and, false_or]
    omega
  · have e2 : (if true = true then 9 + n * z else 0) = 9 + n * z := if_pos rfl
    rw [e2]
    by_cases h1 : s < 9
    · exact .inr (.inl ⟨by simp; omega, h1⟩)
    · by_cases h2 : 9 + n * z ≤ s
      · exact .inr (.inr ⟨by simp; omega, h1, h2⟩)
      · exact .inl ⟨by simp; omega, rfl, h1, h2⟩

set_option maxHeartbeats 2000000 in
theorem where_any (n z s : Int) (w : World) :
    Calls Try.prog 17 #[geo n z, .int .i64 s] w fun e w' => e = .returned (.tuple #[.int .i64 (whQ n z s), .int .i64 (whR n z s), .bool (whB n z s)]) ∧ Below w.heap.size w w' := by
  have hmf : ∀ (fn : Fn) (first cap : Array Value) (w : World), (Instr.makeFunc fn first cap).run Try.prog w = .ok (.func fn first cap) w := fun _ _ _ _ => rfl
  have K := hid (fun w => lsectors_any n z w)
  unfold whQ whR
  rcases wh_ways n z s with ⟨e, ho, h1, h2⟩ | ⟨e, h1⟩ | ⟨e, h1, h2⟩
  · rw [e]
    have o := ok_true ho
    have hs : s < 9 + n * z := by
      have : secI n z = 9 + n * z := by unfold secI; rw [ho]; rfl
      omega
    have q1 : 0 ≤ (s - 9) / z := Int.ediv_nonneg (by omega) (by omega)
    have q2 : (s - 9) / z < n := Int.ediv_lt_of_lt_mul (by omega) (by omega)
    have r1 : 0 ≤ (s - 9) % z := Int.emod_nonneg _ (by omega)
    have r2 : (s - 9) % z < z := Int.emod_lt_of_pos _ (by omega)
    have eq1 : s - (9 + (s - 9) / z * z) = (s - 9) % z := by have := Int.emod_add_mul_ediv (s - 9) z; rw [Int.mul_comm] at this; omega
    have hsg : segI n z ((s - 9) / z) = 9 + (s - 9) / z * z := by
      unfold segI segB
      rw [ho, decide_eq_true q1, decide_eq_true q2]; rfl
    have KS := hid (fun bs bg w cs cg => search_any n s z (by omega) (by omega) o.2.2.1 o.2.2.2 q1 (by omega) bs bg w cs cg)
    have KG := fun w => segment_any n z ((s - 9) / z) w
    rw [hsg] at KG
    have KG := hid KG
    have m3 : IntKind.i64.wrap (s - (9 + (s - 9) / z * z)) = (s - 9) % z := by rw [eq1]; exact IntWalk.i64_in _ (by omega)
    have cond : ∀ a b : Int, (if true = true then a else b) = a := fun _ _ => rfl
    rw [cond, cond]
    clear cond hsg eq1 r1 r2 q1 q2 hs o ho e
    generalize 9 + (s - 9) / z * z = g at *
    generalize (s - 9) / z = q at *
    generalize (s - 9) % z = r at *
    generalize secI n z = sc at *
    go_enter Try.func17, Try.ntmps17
    go_wp2_with fail
    obtain ⟨B0, B1, H⟩ := @boxed2 w _ #[.int .i64 n, .int .i64 z] #[.int .i64 s] 25 3 (Below.refl _ _)
    generalize (w.alloc (.cells #[.int .i64 n, .int .i64 z] 25)).alloc (.cells #[.int .i64 s] 3) = W at B0 B1 H ⊢
    have q0 := fun u : Later W => u.blk B0
    have q1 := fun u : Later W => u.blk B1
    have HB0 := hid B0
    have HB1 := hid B1
    have H1 := hid H
    clear H B0 B1
    refine wp_region_late 7 (by kernel_rfl) (by kernel_rfl) ?_
    simp only [List.take_succ_cons, List.take_zero, List.drop_succ_cons, List.drop_zero]
    repeat (quiet_step ((go_at_call 8; (with_reducible exact late_call (K.out _)))))
    refine wpQuiet_nil ?_
    intro w3 h3'
    have h3 := late_out h3'
    clear h3' q0 q1
    obtain ⟨l0, k0, f0⟩ := HB0.out.more h3
    obtain ⟨l1, k1, f1⟩ := HB1.out.more h3
    have HB0 := hid (HB0.out.more h3)
    have HB1 := hid (HB1.out.more h3)
    have H3 := hid (H1.out.trans (h3.mono H1.out.size))
    clear h3
    go_wp2_with fail
    refine (KS.out _ _ _ (k1 0) (k0 1)).mono ?_
    rintro e w4 ⟨rfl, rfl⟩
    go_wp2_with fail
    clear l0 k0 f0 l1 k1 f1
    have q0 := fun u : Later _ => u.blk HB0.out
    have q1 := fun u : Later _ => u.blk HB1.out
    refine wp_region_late 8 (by kernel_rfl) (by kernel_rfl) ?_
    simp only [List.take_succ_cons, List.take_zero, List.drop_succ_cons, List.drop_zero]
    repeat (quiet_step ((go_at_call 37; (with_reducible exact late_call (KG.out _)))))
    refine wpQuiet_nil ?_
    intro w5 h5'
    have h5 := late_out h5'
    clear h5' q0 q1
    go_wp2
    go_ret3
    exact ⟨rfl, H3.out.trans (h5.mono H3.out.size)⟩
  all_goals
    rw [e]
    have cond : ∀ a b : Int, (if false = true then a else b) = b := fun _ _ => rfl
    rw [cond, cond]
    clear cond e
    generalize secI n z = sc at *
    go_enter Try.func17, Try.ntmps17
    go_wp2_with fail
    obtain ⟨B0, B1, H⟩ := @boxed2 w _ #[.int .i64 n, .int .i64 z] #[.int .i64 s] 25 3 (Below.refl _ _)
    generalize (w.alloc (.cells #[.int .i64 n, .int .i64 z] 25)).alloc (.cells #[.int .i64 s] 3) = W at B0 B1 H ⊢
    have q0 := fun u : Later W => u.blk B0
    have q1 := fun u : Later W => u.blk B1
    have H1 := hid H
    clear H B0 B1
    refine wp_region_late 7 (by kernel_rfl) (by kernel_rfl) ?_
    simp only [List.take_succ_cons, List.take_zero, List.drop_succ_cons, List.drop_zero]
    repeat (quiet_step ((go_at_call 8; (with_reducible exact late_call (K.out _)))))
    refine wpQuiet_nil ?_
    intro w3 h3'
    have h3 := late_out h3'
    clear h3' q0 q1
    go_wp2
    go_ret3
    exact ⟨rfl, H1.out.trans (h3.mono H1.out.size)⟩
end Go.Proofs.Ytcklmemnjchdcaa
