/-
  Layer 16: what the law builds on: how often a segment is told, as a list's length; the law's own beginning.
-/
import Derived.Test.YtjmacojlneldaaaUsageFree
namespace Go.Proofs.Ytjmacojlneldaaa
open Go.RowKit
set_option linter.unusedVariables false
set_option linter.unusedSimpArgs false

theorem need_cnt (n z : Int) (F : Nat → Int) (s : Int) : ∀ k, ((needL n z F s (k + 1)).length : Int) = cntI n z F k s
  | 0 => by simp [needL, needB, cntI]
  | k + 1 => by
    have ih := need_cnt n z F s k
    show ((needL n z F s (k + 1) ++ if needB n z F s (k + 1) then [((k + 1 : Nat) : Int)] else []).length : Int) = cntI n z F k s + if hitB n z F (k + 1) s then 1 else 0
    have e : needB n z F s (k + 1) = hitB n z F (k + 1) s := by
      unfold needB hitB
      rw [decide_eq_true (show (0 : Int) < ((k + 1 : Nat) : Int) by omega), Bool.and_true]
    rw [e]
    split
    · rw [List.length_append, List.length_singleton]; omega
    · rw [List.append_nil, Int.add_zero]; exact ih
theorem free_mem (n z : Int) (F : Nat → Int) (sg nx : Int) : ∀ k x, x ∈ freeL n z F sg nx k → ∃ j : Nat, j < k ∧ x = j ∧ freeB n z F sg nx j = true
  | 0, x, h => by cases h
  | k + 1, x, h => by
    rcases List.mem_append.1 h with h | h
    · obtain ⟨j, hj, e⟩ := free_mem n z F sg nx k x h
      exact ⟨j, by omega, e⟩
    · split at h
      · rename_i hb
        exact ⟨k, by omega, by simpa using h, hb⟩
      · cases h
theorem free_zero {n z : Int} {F : Nat → Int} {sg nx : Int} {j : Nat} (h : freeB n z F sg nx j = true) : cntI n z F 255 j = 0 := by
  unfold freeB at h
  simp only [Bool.and_eq_true, beq_iff_eq] at h
  exact h.1.1.2
theorem cnt_zero (n z : Int) (k : Nat) (j : Int) : cntI n z (fun _ => 0) k j = 0 := by
  induction k with
  | zero => rfl
  | succ k ih =>
    unfold cntI hitB whB
    rw [ih]
    simp
theorem free64 : (freeL 6 4 (fun _ => 0) 0 1 32) = [2, 3, 4, 5] := by
  have key : ∀ k, freeL 6 4 (fun _ => 0) 0 1 k = List.map (fun j : Nat => (j : Int)) ((List.range k).filter fun j : Nat => decide (j < 6) && (j != 0) && (j != 1)) := by
    intro k
    induction k with
    | zero => rfl
    | succ k ih =>
      show freeL 6 4 (fun _ => 0) 0 1 k ++ (if freeB 6 4 (fun _ => 0) 0 1 k then [(k : Int)] else []) = _
      rw [ih, List.range_succ, List.filter_append, List.map_append]
      congr 1
      have e : freeB 6 4 (fun _ => 0) 0 1 k = (decide (k < 6) && (k != 0) && (k != 1)) := by
        unfold freeB
        rw [cnt_zero]
        rw [Bool.eq_iff_iff]
        simp only [Bool.and_eq_true, decide_eq_true_eq, bne_iff_ne, ne_eq]
        simp
        omega
      rw [e, List.filter_cons, List.filter_nil]
      generalize (decide (k < 6) && (k != 0) && (k != 1)) = b
      cases b <;> rfl
  rw [key]
  rfl

theorem alloc256 (ρ : Operand → Value) (dst : Option Tmp) (ty : TypeId) (pos : String) (af : Array Edge) (w : World) : (execOp ρ { dst := dst, op := .alloc 44, type := ty, pos := pos, after := af, guard := none }).run Try.prog w =
    .ok (.value (.pointer (some ⟨w.heap.size, 0, none⟩))) (w.alloc (.cells (Array.replicate 256 (.int .i64 0)) 44)) := by kernel_rfl

set_option maxRecDepth 100000 in
set_option maxHeartbeats 1000000 in
theorem alive16 (w : World) : Calls Try.prog 22 #[] w fun e w' => e = .returned (.bool true) ∧ Below w.heap.size w w' := by
  obtain ⟨c, hc, NC⟩ : ∃ c, Array.replicate 256 (Value.int .i64 0) = c ∧ Nums c .i64 256 (fun _ => 0) := ⟨_, rfl, nums_rep .i64 256⟩
  have KF := hid (fun w => show Calls Try.prog 24 #[.agg #[.int .i64 6, .int .i64 4], .agg c, .agg #[.int .i64 0, .int .i64 0, .int .i64 1]] w fun e w' => ∃ p cap, e = .returned (.slice p 4 cap) ∧ Below w.heap.size w w' from
    (free_any 6 4 c (fun _ => 0) NC 0 0 1 w).mono fun e w' h => by
      obtain ⟨v, rfl, HI, hb⟩ := h
      rw [show okB 6 4 = true from by decide, if_pos rfl, free64] at HI
      obtain ⟨p, cap, rfl, _, _, _⟩ := HI.open
      exact ⟨p, cap, rfl, hb⟩)
  have sz := NC.size
  have B0 := Blk.new w c 44
  have HH := hid ((Below.refl w.heap.size w).alloc (Nat.le_refl _) (.cells c 44))
  have hr := hid B0.range
  have hal := fun (ρ : Operand → Value) dst ty pos af w => alloc256 ρ dst ty pos af w
  rw [hc] at hal
  clear NC B0
  replace hc := hid hc
  go_enter Try.func22, Try.ntmps22
  go_wp2_with (first
    | (refine Go.Great.wpList_runTo rfl (some 1) rfl _ _ (hal _ _ _ _ _ _) ?_)
    | (refine wpList_load_mid rfl 44 _ rfl w.heap.size 0 rfl c.toList _ hr.out Try.underlying44 rfl (by rw [tab256]; simp [sz]) ?_))
  refine (KF.out _).mono ?_
  rintro e w3 ⟨p, cap, rfl, hb3⟩
  have H3 := hid (below2 HH.out hb3 HH.out.size)
  clear hb3 KF
  go_wp2_with fail
  go_ret
  exact ⟨rfl, H3.out⟩
end Go.Proofs.Ytjmacojlneldaaa
