/-
  Layer 17: the law's own beginning: one is set.
-/
import Derived.Test.YtjmacojlneldaaaNmapApart
import Derived.Deep.DeepCutAuto
namespace Go.Proofs.Ytjmacojlneldaaa
open Go.RowKit Go.Maps
set_option linter.unusedVariables false
set_option linter.unusedSimpArgs false

theorem ids3 : ∀ k, idsL (setF (fun _ => 0) 3 9) k = if 3 < k then [3] else []
  | 0 => rfl
  | k + 1 => by
    show idsL (setF (fun _ => 0) 3 9) k ++ (if decide (0 < (k : Int)) && (setF (fun _ => 0) 3 9 k != 0) then [(k : Int)] else []) = _
    rw [ids3 k]
    have e : (decide (0 < (k : Int)) && (setF (fun _ => 0) 3 9 k != 0)) = decide (k = 3) := by
      unfold setF
      by_cases h : k = 3
      · subst h; rfl
      · rw [if_neg (fun x => h (by omega))]
        simp [h]
    rw [e]
    by_cases h : k = 3
    · subst h; rfl
    · rw [decide_eq_false h]
      simp only [Bool.false_eq_true, if_false, List.append_nil]
      by_cases h2 : 3 < k
      · rw [if_pos h2, if_pos (by omega)]
      · rw [if_neg h2, if_neg (by omega)]

set_option maxRecDepth 100000 in
set_option maxHeartbeats 1000000 in
theorem alive17 (w : World) : Calls Try.prog 27 #[] w fun e w' => e = .returned (.bool true) ∧ Below w.heap.size w w' := by
  obtain ⟨c, hc, NC⟩ : ∃ c, Array.replicate 256 (Value.int .i64 0) = c ∧ Nums c .i64 256 (fun _ => 0) := ⟨_, rfl, nums_rep .i64 256⟩
  have NS := set_nums NC 3 9
  have KS := hid (fun w => nset_any c (fun _ => 0) NC 3 9 w)
  have hwf : ∀ i, i < 256 → (Lit.int .i64 (setF (fun _ => 0) 3 9 i)).wf = true := fun i hi => by unfold setF; split <;> rfl
  have h3 := NS.get 3 (by omega)
  rw [show setF (fun _ => 0) 3 9 3 = 9 from rfl] at h3
  generalize setC c 3 9 = d at *
  have KI := hid (fun w => show Calls Try.prog 29 #[.agg d] w fun e w' => ∃ p cap, e = .returned (.slice p 1 cap) ∧ Below w.heap.size w w' from
    (ids_any d _ NS w).mono fun e w' h => by
      obtain ⟨v, rfl, HI, hb⟩ := h
      rw [ids3, if_pos (by omega)] at HI
      obtain ⟨p, cap, rfl, _, _, _⟩ := HI.open
      exact ⟨p, cap, rfl, hb⟩)
  have KA := hid (fun w => show Calls Try.prog 30 #[.agg d] w fun e w' => e = .returned (.bool true) ∧ Below w.heap.size w w' from
    (apart_any d _ NS hwf w).mono fun e w' h => by
      obtain ⟨b, rfl, hb1, hb⟩ := h
      have : b = true := hb1.2 fun i j hij hj => by
        rw [ids3, if_pos (by omega)] at hj
        simp at hj
        omega
      rw [this]
      exact ⟨rfl, hb⟩)
  have sz := NC.size
  have szd := NS.size
  have oned := NS.one
  have B0 := Blk.new w c 44
  have HH := hid ((Below.refl w.heap.size w).alloc (Nat.le_refl _) (.cells c 44))
  have hr := hid B0.range
  have hal := fun (ρ : Operand → Value) dst ty pos af w => alloc256n ρ dst ty pos af w
  rw [hc] at hal
  have hB0 := hid B0
  clear NC NS B0 hwf
  replace hc := hid hc
  go_enter Try.func27, Try.ntmps27
  go_wp2_with (first
    | (refine Go.Great.wpList_runTo rfl (some 1) rfl _ _ (hal _ _ _ _ _ _) ?_)
    | (refine wpList_load_mid rfl 44 _ rfl w.heap.size 0 rfl c.toList _ hr.out Try.underlying44 rfl (by rw [tab256n]; simp [sz]) ?_))
  refine (KS.out _).mono ?_
  rintro e w3 ⟨rfl, hb3⟩
  have H3 := hid (below2 HH.out hb3 HH.out.size)
  have B3 := hB0.out.more hb3
  have Z := hid (B3.whole (d := d) (by rw [szd, sz]))
  have HZ := hid (below_cells H3.out (Nat.le_refl _) 0 d.toList)
  have th := B3.there (n := d.size) (by rw [szd, sz])
  clear hb3 KS B3
  go_upto_region 3 with (first
    | (refine wpList_store_mid rfl 44 _ _ rfl w.heap.size 0 d rfl rfl th (by rw [tab256n, szd]) oned ?_))
  generalize hW : World.setCells _ _ _ _ = W3 at *
  have z3 := (Z.out.cell 3).trans h3
  have hr3 := hid Z.out.range
  have Zh := hid Z
  clear th H3 hW
  go_simp
  go_wp2_with fail
  refine wp_load_mid 44 _ rfl w.heap.size 0 rfl d.toList _ hr3.out Try.underlying44 rfl (by rw [tab256n]; simp [szd]) ?_
  go_wp2_with fail
  refine (KI.out _).mono ?_
  rintro e w4 ⟨p, cap, rfl, hb4⟩
  have Z4 := hid (Zh.out.more hb4)
  have H4 := hid (below2 HZ.out hb4 HZ.out.size)
  have hr4 := hid Z4.out.range
  clear hb4 KI z3
  go_wp2_with fail
  refine wp_load_mid 44 _ rfl w.heap.size 0 rfl d.toList _ hr4.out Try.underlying44 rfl (by rw [tab256n]; simp [szd]) ?_
  go_wp2_with fail
  refine (KA.out _).mono ?_
  rintro e w5 ⟨rfl, hb5⟩
  have H5 := hid (below2 H4.out hb5 H4.out.size)
  clear hb5 KA
  go_wp2_with fail
  go_ret
  exact ⟨rfl, H5.out⟩
end Go.Proofs.Ytjmacojlneldaaa
