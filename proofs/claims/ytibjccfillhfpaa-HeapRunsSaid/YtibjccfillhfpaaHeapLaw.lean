/-
  Layer 21: which of two is ahead as the law says; Push on nobody; the law's beginning.
-/
import Derived.Test.YtibjccfillhfpaaHeapPush
import Derived.Test.YtibjccfillhfpaaHeapPop
namespace Go.Proofs.Ytibjccfillhfpaa
open Go.RowKit
set_option linter.unusedVariables false
set_option linter.unusedSimpArgs false

set_option maxRecDepth 100000 in
set_option maxHeartbeats 4000000 in
theorem hless_any (a b : It) (w : World) : Calls Try.prog 14 #[itval a, itval b] w fun e w' => e = .returned (.bool (lessB a b)) ∧ Below w.heap.size w w' := by
  obtain ⟨ah, al, ao, ai⟩ := a
  obtain ⟨bh, bl, bo, bi⟩ := b
  have hways : (ah < bh ∧ (ah == bh) = false ∧ lessB ⟨ah, al, ao, ai⟩ ⟨bh, bl, bo, bi⟩ = true)
      ∨ (¬ ah < bh ∧ (ah == bh) = false ∧ lessB ⟨ah, al, ao, ai⟩ ⟨bh, bl, bo, bi⟩ = false)
      ∨ (ah = bh ∧ al < bl ∧ (al == bl) = false ∧ lessB ⟨ah, al, ao, ai⟩ ⟨bh, bl, bo, bi⟩ = true)
      ∨ (ah = bh ∧ ¬ al < bl ∧ (al == bl) = false ∧ lessB ⟨ah, al, ao, ai⟩ ⟨bh, bl, bo, bi⟩ = false)
      ∨ (ah = bh ∧ al = bl ∧ ao < bo ∧ lessB ⟨ah, al, ao, ai⟩ ⟨bh, bl, bo, bi⟩ = true)
      ∨ (ah = bh ∧ al = bl ∧ ¬ ao < bo ∧ (ao == bo) = false ∧ lessB ⟨ah, al, ao, ai⟩ ⟨bh, bl, bo, bi⟩ = false)
      ∨ (ah = bh ∧ al = bl ∧ ao = bo ∧ ai < bi ∧ lessB ⟨ah, al, ao, ai⟩ ⟨bh, bl, bo, bi⟩ = true)
      ∨ (ah = bh ∧ al = bl ∧ ao = bo ∧ ¬ ai < bi ∧ lessB ⟨ah, al, ao, ai⟩ ⟨bh, bl, bo, bi⟩ = false) := by
    rw [lessB_eq]
    have ne : ∀ x y : Int, x ≠ y → (x == y) = false := fun x y h => by rw [beq_eq_false_iff_ne]; exact h
    have dt : ∀ p : Prop, [Decidable p] → p → decide p = true := fun p _ h => decide_eq_true h
    have df : ∀ p : Prop, [Decidable p] → ¬ p → decide p = false := fun p _ h => decide_eq_false h
    by_cases h1 : ah < bh
    · exact .inl ⟨h1, ne _ _ (by omega), dt _ (by unfold ltI; simp only; omega)⟩
    · by_cases h2 : ah = bh
      · by_cases h3 : al < bl
        · exact .inr (.inr (.inl ⟨h2, h3, ne _ _ (by omega), dt _ (by unfold ltI; simp only; omega)⟩))
        · by_cases h4 : al = bl
          · by_cases h5 : ao < bo
            · exact .inr (.inr (.inr (.inr (.inl ⟨h2, h4, h5, dt _ (by unfold ltI; simp only; omega)⟩))))
            · by_cases h6 : ao = bo
              · by_cases h7 : ai < bi
                · exact .inr (.inr (.inr (.inr (.inr (.inr (.inl ⟨h2, h4, h6, h7, dt _ (by unfold ltI; simp only; omega)⟩))))))
                · exact .inr (.inr (.inr (.inr (.inr (.inr (.inr ⟨h2, h4, h6, h7, df _ (by unfold ltI; simp only; omega)⟩))))))
              · exact .inr (.inr (.inr (.inr (.inr (.inl ⟨h2, h4, h5, ne _ _ h6, df _ (by unfold ltI; simp only; omega)⟩)))))
          · exact .inr (.inr (.inr (.inl ⟨h2, h3, ne _ _ h4, df _ (by unfold ltI; simp only; omega)⟩)))
      · exact .inr (.inl ⟨h1, ne _ _ h2, df _ (by unfold ltI; simp only; omega)⟩)
  unfold itval
  simp only
  generalize lessB ⟨ah, al, ao, ai⟩ ⟨bh, bl, bo, bi⟩ = r at *
  rcases hways with ⟨g1, g2, rfl⟩ | ⟨g1, g2, rfl⟩ | ⟨rfl, g1, g2, rfl⟩ | ⟨rfl, g1, g2, rfl⟩ | ⟨rfl, rfl, g1, rfl⟩ | ⟨rfl, rfl, g1, g2, rfl⟩ | ⟨rfl, rfl, rfl, g1, rfl⟩ | ⟨rfl, rfl, rfl, g1, rfl⟩
  all_goals
    go_enter Try.func14, Try.ntmps14
    go_wp2
    go_ret
    exact ⟨rfl, by go_grown⟩

set_option maxRecDepth 100000 in
theorem push_nil (x : It) (w : World) : Calls Try.prog 13 #[.pointer none, itval x] w fun e w' => e = .returned (.tuple #[]) ∧ Below w.heap.size w w' := by
  obtain ⟨xh, xl, xo, xi⟩ := x
  go_enter Try.func13, Try.ntmps13
  go_wp2_with fail
  refine bodyPost_ret (results_none rfl _ _ _) rfl ⟨rfl, by go_grown⟩

set_option maxRecDepth 100000 in
set_option maxHeartbeats 4000000 in
theorem alive21 (w : World) : Calls Try.prog 12 #[] w fun e w' => e = .returned (.bool true) ∧ Below w.heap.size w w' := by
  have H0 := hid (heapS_new w w.heap.size)
  have hb0 : Hid (Below w.heap.size w (w.alloc (.cells #[.slice none 0 0] 49))) := hid ((Below.refl _ _).alloc (Nat.le_refl _) _)
  go_enter Try.func12, Try.ntmps12
  go_wp2_with fail
  generalize w.alloc (.cells #[.slice none 0 0] 49) = W0 at *
  refine (push_any w.heap.size w.heap.size _ [] ⟨0, 0, 0, 5⟩ heapOk_nil (by simp) W0 hb0.out.size H0.out).mono ?_
  rintro e w1 ⟨rfl, v1, L1, hl1, hok1, hp1, H1, -, S1⟩
  have hb1 := hid (hb0.out.trans (H0.out.frame hb0.out.size (Nat.le_refl _) (Nat.le_refl _) S1))
  have H1h := hid H1
  have hok1h := hid hok1
  have hl1h := hid hl1
  clear H0 hb0 S1 H1 hok1 hl1
  go_wp2_with fail
  refine (push_any w.heap.size w.heap.size v1 L1 ⟨0, 0, 0, 3⟩ hok1h.out (by rw [hl1h.out]; simp) w1 hb1.out.size H1h.out).mono ?_
  rintro e w2 ⟨rfl, v2, L2, hl2, hok2, hp2, H2, -, S2⟩
  have hb2 := hid (hb1.out.trans (H1h.out.frame hb1.out.size (Nat.le_refl _) (Nat.le_refl _) S2))
  have hl2' : L2.length = 2 := by rw [hl2, hl1h.out]; rfl
  have hp : ([⟨0, 0, 0, 3⟩, ⟨0, 0, 0, 5⟩] : List It).Perm L2 := by
    refine List.Perm.symm (hp2.trans ?_)
    refine (List.Perm.append_right _ hp1).trans ?_
    exact List.perm_append_comm (l₁ := [(⟨0, 0, 0, 5⟩ : It)]) (l₂ := [(⟨0, 0, 0, 3⟩ : It)])
  have hfirst := first_same hok2 (x := ⟨0, 0, 0, 3⟩) (S := [⟨0, 0, 0, 5⟩]) (by
    refine List.pairwise_cons.2 ⟨fun y hy => ?_, List.pairwise_singleton _ _⟩
    simp at hy
    subst hy
    unfold leI ltI
    simp) hp
  have H2h := hid H2
  have KP := hid (pop_any w.heap.size w.heap.size v2 L2 hok2 (by omega) (by omega) w2 H2)
  rw [hfirst] at KP
  have hl2h := hid hl2'
  clear H1h hok1h hl1h hb1 S2 H2 hok2 hl2 hl2' hp hp1 hp2 hfirst
  unfold itval at KP
  go_wp2_with fail
  refine KP.out.mono ?_
  rintro e w3 ⟨rfl, v3, L3, hl3, hok3, hp3, H3, hv3, S3⟩
  have hb3 := hid (hb2.out.trans (H2h.out.frame hb2.out.size (Nat.le_refl _) (Nat.le_refl _) S3))
  have hl3' : L3.length = 1 := by have := hl2h.out; omega
  have H3h := hid (H3.more ((Below.refl _ _).alloc (Nat.le_refl _) (.cells #[.int .u64 0, .int .u64 0, .int .i64 0, .int .i64 3] 55)))
  have KL := hid (hlen_any w.heap.size w.heap.size v3 L3 _ H3h.out)
  rw [hl3'] at KL
  clear KP H3 S3 hb2 H2h hp3 hok3 hl3 hv3
  go_wp2_with fail
  refine KL.out.mono ?_
  rintro e w4 ⟨rfl, rfl⟩
  go_wp2_with fail
  go_ret
  exact ⟨rfl, hb3.out.alloc hb3.out.size _⟩
end Go.Proofs.Ytibjccfillhfpaa
