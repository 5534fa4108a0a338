/-
  Layer 27: the law's own way to tell which of two segments is better.
-/
import Derived.Test.YtohdhbamdeenlaaVictim
import Derived.Test.YtohdhbamdeenlaaAidMore
import Derived.LoopTactic
namespace Go.Proofs.Ytohdhbamdeenlaa
open Go.RowKit
set_option linter.unusedVariables false
set_option linter.unusedSimpArgs false

theorem fix_any (l a : Int) (w : World) : Calls Try.prog 84 #[sg l a] w fun e w' => e = .returned (.tuple #[.int .u64 (liveI l), .int .u64 (nearI a 1 4294967296)]) ∧ Below w.heap.size w w' := by
  have b1 := live_bd l
  have b2 := near_bd a 1 4294967296 (by omega)
  unfold liveI at *
  unfold nearI at *
  generalize h1 : min (max l 0) 1024 = x at *
  generalize h2 : min (max a 1) 4294967296 = y at *
  have e1 : IntKind.u64.wrap x = x := IntWalk.u64_in _ (by omega)
  have e2 : IntKind.u64.wrap y = y := IntWalk.u64_in _ (by omega)
  clear b1 b2
  go_enter Try.func84, Try.ntmps84
  go_wp2_with fail
  generalize hW : w.alloc _ = W
  have B0 := (hW ▸ Blk.new w _ _ : Blk W w.heap.size _)
  have H1 : Hid (Below w.heap.size w W) := hid (hW ▸ Below.alloc (Below.refl _ _) (Nat.le_refl _) _)
  have q0 := fun u : Later W => u.blk B0
  clear hW
  refine wp_region_late 11 (by kernel_rfl) (by kernel_rfl) ?_
  simp only [List.take_succ_cons, List.take_zero, List.drop_succ_cons, List.drop_zero]
  repeat (quiet_step (fail))
  refine wpQuiet_nil ?_
  intro w3 h3'
  have h3 := late_out h3'
  clear h3' q0 B0
  go_wp2
  go_ret2
  exact ⟨rfl, H1.out.trans (h3.mono H1.out.size)⟩

set_option maxRecDepth 100000 in
theorem digits_any (a b c n : Int) (ha : 0 ≤ a ∧ a ≤ 1024) (hb : 0 ≤ b ∧ b ≤ 4294967296) (hc : 0 ≤ c ∧ c ≤ 2048) (hn : a * b * c = n) (w : World) :
    Calls Try.prog 85 #[.int .u64 a, .int .u64 b, .int .u64 c] w fun e w' => e = .returned (.agg #[.int .u64 (n % 4294967296), .int .u64 (n / 4294967296), .int .u64 0]) ∧ Below w.heap.size w w' := by
  have hp : 0 ≤ a * b ∧ a * b ≤ 4398046511104 := ⟨Int.mul_nonneg ha.1 hb.1, Int.le_trans (Int.mul_le_mul ha.2 hb.2 hb.1 (by omega)) (by omega)⟩
  generalize hpp : a * b = p at *
  have hx : 0 ≤ p % 4294967296 * c ∧ p % 4294967296 * c ≤ 4294967295 * 2048 := ⟨Int.mul_nonneg (by omega) hc.1, Int.mul_le_mul (by omega) hc.2 hc.1 (by omega)⟩
  have hy : 0 ≤ p / 4294967296 * c ∧ p / 4294967296 * c ≤ 1024 * 2048 := ⟨Int.mul_nonneg (by omega) hc.1, Int.mul_le_mul (by omega) hc.2 hc.1 (by omega)⟩
  have hs : n = p / 4294967296 * c * 4294967296 + p % 4294967296 * c := by
    have h1 : p = p / 4294967296 * 4294967296 + p % 4294967296 := by omega
    have h2 : n = (p / 4294967296 * 4294967296 + p % 4294967296) * c := by rw [← h1, hn]
    rw [Int.add_mul, Int.mul_assoc, Int.mul_comm 4294967296 c, ← Int.mul_assoc] at h2
    exact h2
  have u1 : IntKind.u64.wrap (a * b) = p := by rw [hpp]; exact IntWalk.u64_in _ (by omega)
  have t1 : p.tmod 4294967296 = p % 4294967296 := Int.tmod_eq_emod_of_nonneg hp.1
  have t2 : p.tdiv 4294967296 = p / 4294967296 := Int.tdiv_eq_ediv_of_nonneg hp.1
  generalize hlo : p % 4294967296 = lo at *
  generalize hhi : p / 4294967296 = hi at *
  have u6 : IntKind.u64.wrap hi = hi := IntWalk.u64_in _ (by omega)
  have u8 : IntKind.u64.wrap lo = lo := IntWalk.u64_in _ (by omega)
  generalize hX : lo * c = X at hs hx
  generalize hY : hi * c = Y at hs hy
  have u2 : IntKind.u64.wrap (lo * c) = X := by rw [hX]; exact IntWalk.u64_in _ (by omega)
  have u3 : IntKind.u64.wrap (hi * c) = Y := by rw [hY]; exact IntWalk.u64_in _ (by omega)
  have u7 : IntKind.u64.wrap (X / 4294967296) = X / 4294967296 := IntWalk.u64_in _ (by omega)
  have t3 : X.tdiv 4294967296 = X / 4294967296 := Int.tdiv_eq_ediv_of_nonneg hx.1
  have t4 : X.tmod 4294967296 = X % 4294967296 := Int.tmod_eq_emod_of_nonneg hx.1
  have u4 : IntKind.u64.wrap (Y + X / 4294967296) = n / 4294967296 := by rw [IntWalk.u64_in _ (by omega)]; omega
  have e1 : n % 4294967296 = X % 4294967296 := by omega
  have hq : 0 ≤ n / 4294967296 ∧ n / 4294967296 < 4294967296 := by omega
  have u5 : IntKind.u64.wrap p = p := IntWalk.u64_in _ (by omega)
  rw [e1]
  generalize n / 4294967296 = q at *
  have t5 : q.tdiv 4294967296 = 0 := by rw [Int.tdiv_eq_ediv_of_nonneg hq.1]; omega
  have t6 : q.tmod 4294967296 = q := by rw [Int.tmod_eq_emod_of_nonneg hq.1]; omega
  have t7 : q / 4294967296 = 0 := by omega
  have t8 : q % 4294967296 = q := by omega
  have bnds : 0 ≤ X ∧ X ≤ 8796093022207 ∧ 0 ≤ p ∧ p ≤ 4398046511104 := by omega
  obtain ⟨b1, b2, b3, b4⟩ := bnds
  obtain ⟨b5, b6⟩ := hq
  clear hs hx hy hp hpp hn ha hb hc hlo hhi e1 hX hY
  go_enter Try.func85, Try.ntmps85
  go_wp2
  refine bodyPost_ret (v := .agg #[.int .u64 (X % 4294967296), .int .u64 q, .int .u64 0]) (by simp [results, Try.results85, go_sem]) rfl ⟨rfl, ?_⟩
  exact Below.alloc (Below.refl _ _) (Nat.le_refl _) _

theorem digits_ways (p q : Int) : (¬ p / 4294967296 = q / 4294967296 ∧ decide (q < p) = decide (q / 4294967296 < p / 4294967296)) ∨ (p / 4294967296 = q / 4294967296 ∧ ¬ p % 4294967296 = q % 4294967296 ∧ decide (q < p) = decide (q % 4294967296 < p % 4294967296)) ∨
    (p / 4294967296 = q / 4294967296 ∧ p % 4294967296 = q % 4294967296 ∧ decide (q < p) = false) := by
  by_cases h1 : p / 4294967296 = q / 4294967296
  · by_cases h2 : p % 4294967296 = q % 4294967296
    · exact .inr (.inr ⟨h1, h2, decide_eq_false (by omega)⟩)
    · exact .inr (.inl ⟨h1, h2, by rw [decide_eq_decide]; omega⟩)
  · exact .inl ⟨h1, by rw [decide_eq_decide]; omega⟩

set_option maxRecDepth 100000 in
set_option maxHeartbeats 8000000 in
theorem lawbetter_any (s size l a l' a' : Int) (hz : nearI size 0 1024 = s) (w : World) :
    Calls Try.prog 56 #[.int .i64 size, sg l a, sg l' a'] w fun e w' => e = .returned (.bool (betterB s l a l' a')) ∧ Below w.heap.size w w' := by
  have hs := near_bd size 0 1024 (by omega)
  rw [hz] at hs
  have F1 := hid (fun w => fix_any l a w)
  have F2 := hid (fun w => fix_any l' a' w)
  have b1 := live_bd l
  have b2 := live_bd l'
  have g1 := near_bd a 1 4294967296 (by omega)
  have g2 := near_bd a' 1 4294967296 (by omega)
  have D1 := fun w => digits_any (max (s - liveI l) 0) (nearI a 1 4294967296) (s + liveI l') _ (by omega) (by omega) (by omega) rfl w
  have D2 := fun w => digits_any (max (s - liveI l') 0) (nearI a' 1 4294967296) (s + liveI l) _ (by omega) (by omega) (by omega) rfl w
  have W := digits_ways (max (s - liveI l) 0 * nearI a 1 4294967296 * (s + liveI l')) (max (s - liveI l') 0 * nearI a' 1 4294967296 * (s + liveI l))
  unfold betterB wonI overI
  generalize max (s - liveI l) 0 * nearI a 1 4294967296 * (s + liveI l') = p at *
  generalize max (s - liveI l') 0 * nearI a' 1 4294967296 * (s + liveI l) = q at *
  generalize p / 4294967296 = p1 at *
  generalize p % 4294967296 = p0 at *
  generalize q / 4294967296 = q1 at *
  generalize q % 4294967296 = q0 at *
  generalize decide (q < p) = R at *
  unfold nearI at hz
  have ex1 : IntKind.u64.wrap (s + liveI l') = s + liveI l' := IntWalk.u64_in _ (by omega)
  have ex2 : IntKind.u64.wrap (s + liveI l) = s + liveI l := IntWalk.u64_in _ (by omega)
  have ex3 : IntKind.u64.wrap s = s := IntWalk.u64_in _ (by omega)
  have w1 : (liveI l < s ∧ max (s - liveI l) 0 = s - liveI l) ∨ (¬ liveI l < s ∧ max (s - liveI l) 0 = 0) := by omega
  have w2 : (liveI l' < s ∧ max (s - liveI l') 0 = s - liveI l') ∨ (¬ liveI l' < s ∧ max (s - liveI l') 0 = 0) := by omega
  generalize nearI a 1 4294967296 = A at *
  generalize nearI a' 1 4294967296 = A' at *
  generalize liveI l = L at *
  generalize liveI l' = L' at *
  replace W := hid W
  clear g1 g2
  rcases w1 with ⟨c1, e1⟩ | ⟨c1, e1⟩ <;> rcases w2 with ⟨c2, e2⟩ | ⟨c2, e2⟩
  all_goals
    rw [e1] at D1
    rw [e2] at D2
    have K1 := hid D1
    have K2 := hid D2
    clear e1 e2 D1 D2
    go_enter Try.func56, Try.ntmps56
    go_wp2_with fail
    refine (F1.out _).mono ?_
    rintro e v1 ⟨rfl, hb1⟩
    obtain ⟨P0, P1, H⟩ := boxed2 hb1
    have HB1 := hid P1
    have H1 := hid H
    obtain ⟨l1, k1, f1⟩ := P1
    clear hb1 H P0
    go_wp2_with fail
    refine (F2.out _).mono ?_
    rintro e v2 ⟨rfl, hb2⟩
    have H2 := hid (below2 H1.out hb2 H1.out.size)
    clear hb2 H1 l1 k1 f1 HB1
    go_wp2_with fail
    refine (K1.out _).mono ?_
    rintro e v3 ⟨rfl, hb3⟩
    have H3 := hid (below2 H2.out hb3 H2.out.size)
    clear hb3 H2
    go_wp2_with fail
    refine (K2.out _).mono ?_
    rintro e v4 ⟨rfl, hb4⟩
    have H4 := hid (below2 H3.out hb4 H3.out.size)
    clear hb4 H3
    go_wp2_with fail
    generalize hW : World.alloc _ _ = W4
    have P0 := hid (show Blk W4 v4.heap.size #[.int .u64 p0, .int .u64 p1, .int .u64 0] from hW ▸ (Blk.new v4 _ _).alloc _)
    have Q0 := hid (show Blk W4 (v4.heap.size + 1) #[.int .u64 q0, .int .u64 q1, .int .u64 0] from by
      have := Blk.new (v4.alloc (.cells #[.int .u64 p0, .int .u64 p1, .int .u64 0] 135)) #[.int .u64 q0, .int .u64 q1, .int .u64 0] 135
      rw [World.size_alloc] at this
      exact hW ▸ this)
    have G0 := hid (show Below w.heap.size w W4 from hW ▸ Below.alloc (Below.alloc H4.out H4.out.size _) (by have := H4.out.size; rw [World.size_alloc]; omega) _)
    clear hW H4
    generalize v4.heap.size = bp at *
    refine wp_loop_rounds 4 ?_
    rw [rounds_succ]
    go_wp2_with fail
    have c1 := fun u : Later _ => u.blk P0.out
    have c2 := fun u : Later _ => u.blk Q0.out
    refine wp_region_late 6 (by kernel_rfl) (by kernel_rfl) ?_
    simp only [List.take_succ_cons, List.take_zero, List.drop_succ_cons, List.drop_zero]
    repeat (quiet_step (fail))
    refine wpQuiet_nil ?_
    intro x1 g
    replace g := late_out g
    have P1 := hid (P0.out.more g)
    have Q1 := hid (Q0.out.more g)
    have G1 := hid (below2 G0.out g G0.out.size)
    clear c1 c2 g P0 Q0 G0
    go_wp2_with fail
    rw [rounds_succ]
    go_wp2_with fail
    rcases W.out with ⟨n1, e⟩ | ⟨rfl, n2, e⟩ | ⟨rfl, rfl, e⟩
    · replace e := hid e
      clear W
      replace n1 : (p1 == q1) = false := beq_eq_false_iff_ne.2 n1
      have c1 := fun u : Later _ => u.blk P1.out
      have c2 := fun u : Later _ => u.blk Q1.out
      refine wp_region_late 6 (by kernel_rfl) (by kernel_rfl) ?_
      simp only [List.take_succ_cons, List.take_zero, List.drop_succ_cons, List.drop_zero]
      repeat (quiet_step (fail))
      refine wpQuiet_nil ?_
      intro x2 g
      replace g := late_out g
      have P2 := hid (P1.out.more g)
      have Q2 := hid (Q1.out.more g)
      have G2 := hid (below2 G1.out g G1.out.size)
      clear c1 c2 g P1 Q1 G1
      go_wp2_with fail
      have c1 := fun u : Later _ => u.blk P2.out
      have c2 := fun u : Later _ => u.blk Q2.out
      refine wp_region_late 7 (by kernel_rfl) (by kernel_rfl) ?_
      simp only [List.take_succ_cons, List.take_zero, List.drop_succ_cons, List.drop_zero]
      repeat (quiet_step (fail))
      refine wpQuiet_nil ?_
      intro x3 g
      replace g := late_out g
      have P3 := hid (P2.out.more g)
      have Q3 := hid (Q2.out.more g)
      have G3 := hid (below2 G2.out g G2.out.size)
      clear c1 c2 g P2 Q2 G2
      go_wp2
      go_ret
      exact ⟨by rw [e.out]; rfl, G3.out⟩
    · replace e := hid e
      clear W
      replace n2 : (p0 == q0) = false := beq_eq_false_iff_ne.2 n2
      have c1 := fun u : Later _ => u.blk P1.out
      have c2 := fun u : Later _ => u.blk Q1.out
      refine wp_region_late 6 (by kernel_rfl) (by kernel_rfl) ?_
      simp only [List.take_succ_cons, List.take_zero, List.drop_succ_cons, List.drop_zero]
      repeat (quiet_step (fail))
      refine wpQuiet_nil ?_
      intro x2 g
      replace g := late_out g
      have P2 := hid (P1.out.more g)
      have Q2 := hid (Q1.out.more g)
      have G2 := hid (below2 G1.out g G1.out.size)
      clear c1 c2 g P1 Q1 G1
      go_wp2_with fail
      rw [rounds_succ]
      go_wp2_with fail
      have c1 := fun u : Later _ => u.blk P2.out
      have c2 := fun u : Later _ => u.blk Q2.out
      refine wp_region_late 6 (by kernel_rfl) (by kernel_rfl) ?_
      simp only [List.take_succ_cons, List.take_zero, List.drop_succ_cons, List.drop_zero]
      repeat (quiet_step (fail))
      refine wpQuiet_nil ?_
      intro x3 g
      replace g := late_out g
      have P3 := hid (P2.out.more g)
      have Q3 := hid (Q2.out.more g)
      have G3 := hid (below2 G2.out g G2.out.size)
      clear c1 c2 g P2 Q2 G2
      go_wp2_with fail
      have c1 := fun u : Later _ => u.blk P3.out
      have c2 := fun u : Later _ => u.blk Q3.out
      refine wp_region_late 7 (by kernel_rfl) (by kernel_rfl) ?_
      simp only [List.take_succ_cons, List.take_zero, List.drop_succ_cons, List.drop_zero]
      repeat (quiet_step (fail))
      refine wpQuiet_nil ?_
      intro x4 g
      replace g := late_out g
      have P4 := hid (P3.out.more g)
      have Q4 := hid (Q3.out.more g)
      have G4 := hid (below2 G3.out g G3.out.size)
      clear c1 c2 g P3 Q3 G3
      go_wp2
      go_ret
      exact ⟨by rw [e.out]; rfl, G4.out⟩
    · replace e := hid e
      clear W
      have c1 := fun u : Later _ => u.blk P1.out
      have c2 := fun u : Later _ => u.blk Q1.out
      refine wp_region_late 6 (by kernel_rfl) (by kernel_rfl) ?_
      simp only [List.take_succ_cons, List.take_zero, List.drop_succ_cons, List.drop_zero]
      repeat (quiet_step (fail))
      refine wpQuiet_nil ?_
      intro x2 g
      replace g := late_out g
      have P2 := hid (P1.out.more g)
      have Q2 := hid (Q1.out.more g)
      have G2 := hid (below2 G1.out g G1.out.size)
      clear c1 c2 g P1 Q1 G1
      go_wp2_with fail
      rw [rounds_succ]
      go_wp2_with fail
      have c1 := fun u : Later _ => u.blk P2.out
      have c2 := fun u : Later _ => u.blk Q2.out
      refine wp_region_late 6 (by kernel_rfl) (by kernel_rfl) ?_
      simp only [List.take_succ_cons, List.take_zero, List.drop_succ_cons, List.drop_zero]
      repeat (quiet_step (fail))
      refine wpQuiet_nil ?_
      intro x3 g
      replace g := late_out g
      have P3 := hid (P2.out.more g)
      have Q3 := hid (Q2.out.more g)
      have G3 := hid (below2 G2.out g G2.out.size)
      clear c1 c2 g P2 Q2 G2
      go_wp2_with fail
      rw [rounds_succ]
      go_wp2
      go_ret
      exact ⟨by rw [e.out]; rfl, G3.out⟩
end Go.Proofs.Ytohdhbamdeenlaa
