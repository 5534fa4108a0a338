/-
  Cells that cover a window: one becoming finer keeps it so.
-/
import Derived.Test.YtdepmoocjnmbeaaTilesGClo
namespace Go.Proofs.Ytdepmoocjnmbeaa
open Go.RowKit
set_option linter.unusedVariables false
set_option linter.unusedSimpArgs false

theorem floor_iff {X x l : Int} (h0 : 0 ≤ l) (h1 : l ≤ 32) (hX : floorI X l = X) : floorI x l = X ↔ X ≤ x ∧ x ≤ X + (pw l - 1) := by
  have hp := pw_bd h0 h1
  have a1 := Int.ediv_mul_le x (show pw l ≠ 0 by omega)
  have a2 := Int.lt_ediv_add_one_mul_self x (show 0 < pw l by omega)
  rw [Int.add_mul, Int.one_mul] at a2
  unfold floorI at *
  constructor
  · intro h
    rw [h] at a1 a2
    omega
  · rintro ⟨h2, h3⟩
    generalize x / pw l = s at *
    generalize X / pw l = m at *
    generalize pw l = p at *
    rw [← hX] at h2 h3 ⊢
    have : s = m := by
      by_cases hlt : s < m
      · have h5 : (s + 1) * p ≤ m * p := Int.mul_le_mul_of_nonneg_right (by omega) (by omega)
        rw [Int.add_mul, Int.one_mul] at h5
        omega
      · by_cases hgt : m < s
        · have h5 : (m + 1) * p ≤ s * p := Int.mul_le_mul_of_nonneg_right (by omega) (by omega)
          rw [Int.add_mul, Int.one_mul] at h5
          omega
        · omega
    rw [this]
/-- Is a place in a cell? -/
def inC (x y : Int) (c : Cl) : Bool := decide (c.x ≤ x ∧ x ≤ c.x + (pw c.l - 1) ∧ c.y ≤ y ∧ y ≤ c.y + (pw c.l - 1))
theorem has_in {c : Cl} (h : okC c) (x y : Int) : hasB c.x c.y c.l x y = inC x y c := by
  unfold hasB inC eq3
  rw [h.lv, h.fx, h.fy, Bool.eq_iff_iff]
  simp only [Bool.and_eq_true, decide_eq_true_eq]
  rw [floor_iff h.l0 h.l1 h.fx, floor_iff h.l0 h.l1 h.fy]
  constructor
  · rintro ⟨⟨⟨a, b⟩, c, d⟩, _⟩; exact ⟨a, b, c, d⟩
  · rintro ⟨a, b, c, d⟩; exact ⟨⟨⟨a, b⟩, c, d⟩, trivial⟩
theorem kid0 (c : Cl) : kidC c 0 = ⟨c.x, c.y, c.l + 1⟩ := by simp [kidC]
theorem kid1 (c : Cl) : kidC c 1 = ⟨c.x + pw (c.l + 1), c.y, c.l + 1⟩ := by simp [kidC]
theorem kid2 (c : Cl) : kidC c 2 = ⟨c.x, c.y + pw (c.l + 1), c.l + 1⟩ := by simp [kidC]
theorem kid3 (c : Cl) : kidC c 3 = ⟨c.x + pw (c.l + 1), c.y + pw (c.l + 1), c.l + 1⟩ := by simp [kidC]
theorem mt_iff (r : Rc) (c : Cl) : mtB r c = true ↔ max c.x r.a ≤ min (c.x + (pw c.l - 1)) r.c ∧ max c.y r.b ≤ min (c.y + (pw c.l - 1)) r.d := by
  unfold mtB
  rw [meets_iff]
  simp
def inR (r : Rc) (x y : Int) : Prop := r.a ≤ x ∧ x ≤ r.c ∧ r.b ≤ y ∧ y ≤ r.d
theorem in_meets {r : Rc} {c : Cl} {x y : Int} (h : inR r x y) (hc : inC x y c = true) : mtB r c = true := by
  rw [mt_iff]
  unfold inC at hc
  unfold inR at h
  simp only [decide_eq_true_eq] at hc
  omega
theorem count_kids {c : Cl} (h : okC c) (hl : c.l < 32) (x y : Int) : ((List.range 4).map (kidC c)).countP (inC x y) = if inC x y c = true then 1 else 0 := by
  have h2 := pw_next h.l0 hl
  have hD := pw_bd (show (0 : Int) ≤ c.l + 1 by have := h.l0; omega) (show c.l + 1 ≤ 32 by omega)
  have e : (List.range 4).map (kidC c) = [kidC c 0, kidC c 1, kidC c 2, kidC c 3] := rfl
  rw [e, kid0, kid1, kid2, kid3]
  simp only [List.countP_cons, List.countP_nil, inC, h2, decide_eq_true_eq]
  generalize pw (c.l + 1) = D at *
  generalize c.x = X at *
  generalize c.y = Y at *
  repeat' split
  all_goals omega
theorem count_met {r : Rc} {c : Cl} (h : okC c) (hl : c.l < 32) {x y : Int} (hr : inR r x y) : (metL r c).countP (inC x y) = if inC x y c = true then 1 else 0 := by
  rw [← count_kids h hl]
  unfold metL metK
  rw [List.countP_filter]
  refine List.countP_congr fun k hk => ?_
  simp only [Bool.and_eq_true]
  exact ⟨fun h => h.1, fun h => ⟨h, in_meets hr h⟩⟩
theorem met_some {r : Rc} {c : Cl} (h : okC c) (hl : c.l < 32) (hm : mtB r c = true) : 1 ≤ (metL r c).length := by
  rw [mt_iff] at hm
  have hr : inR r (max c.x r.a) (max c.y r.b) := by unfold inR; omega
  have hi : inC (max c.x r.a) (max c.y r.b) c = true := by unfold inC; simp only [decide_eq_true_eq]; omega
  have := count_met h hl hr
  rw [if_pos hi] at this
  have h2 := List.countP_le_length (p := inC (max c.x r.a) (max c.y r.b)) (l := metL r c)
  omega
/-- Cells that cover a window. -/
structure CovOk (r : Rc) (L : List Cl) : Prop where
  ok : ∀ c ∈ L, okC c
  meet : ∀ c ∈ L, mtB r c = true
  one : ∀ x y, inR r x y → L.countP (inC x y) = 1
theorem split_at (L : List Cl) (i : Nat) (hi : i < L.length) : L = L.take i ++ [L[i]] ++ L.drop (i + 1) := by
  conv => lhs; rw [← List.take_append_drop (i + 1) L, List.take_succ_eq_append_getElem hi]
theorem CovOk.step {r : Rc} {L : List Cl} (H : CovOk r L) (i : Nat) (hi : i < L.length) (hl : L[i].l < 32) : CovOk r (L.take i ++ metL r L[i] ++ L.drop (i + 1)) := by
  have hc := H.ok _ (List.getElem_mem hi)
  refine ⟨fun c hcm => ?_, fun c hcm => ?_, fun x y hr => ?_⟩
  · rw [List.mem_append, List.mem_append] at hcm
    rcases hcm with (hcm | hcm) | hcm
    · exact H.ok c (List.mem_of_mem_take hcm)
    · obtain ⟨hm, _⟩ := List.mem_filter.1 hcm
      obtain ⟨q, _, rfl⟩ := List.mem_map.1 hm
      exact hc.kid hl q
    · exact H.ok c (List.mem_of_mem_drop hcm)
  · rw [List.mem_append, List.mem_append] at hcm
    rcases hcm with (hcm | hcm) | hcm
    · exact H.meet c (List.mem_of_mem_take hcm)
    · exact (List.mem_filter.1 hcm).2
    · exact H.meet c (List.mem_of_mem_drop hcm)
  · have h1 := H.one x y hr
    rw [split_at L i hi, List.countP_append, List.countP_append] at h1
    rw [List.countP_append, List.countP_append, count_met hc hl hr]
    simp only [List.countP_cons, List.countP_nil] at h1
    omega
def msr (L : List Cl) : Nat := (L.map fun c => 5 ^ (32 - c.l).toNat).sum
theorem msr_append (A B : List Cl) : msr (A ++ B) = msr A + msr B := by simp [msr]
theorem msr_met {r : Rc} {c : Cl} (h : okC c) (hl : c.l < 32) : msr (metL r c) < 5 ^ (32 - c.l).toNat := by
  obtain ⟨k, hk⟩ : ∃ k, (32 - c.l).toNat = k + 1 := ⟨(32 - c.l).toNat - 1, by omega⟩
  have hall : ∀ (M : List Cl), (∀ d ∈ M, (32 - d.l).toNat = k) → msr M = M.length * 5 ^ k := by
    intro M
    induction M with
    | nil => intro _; simp [msr]
    | cons d M ih =>
      intro hM
      have h1 := ih fun e he => hM e (List.mem_cons_of_mem _ he)
      have h2 := hM d (List.mem_cons_self ..)
      unfold msr at *
      rw [List.map_cons, List.sum_cons, h1, h2, List.length_cons, Nat.add_mul, Nat.one_mul, Nat.add_comm]
  rw [hall (metL r c) (fun d hd => by
    obtain ⟨hm, _⟩ := List.mem_filter.1 hd
    obtain ⟨q, _, rfl⟩ := List.mem_map.1 hm
    show (32 - (c.l + 1)).toNat = k
    omega), hk, Nat.pow_succ]
  have h4 := metK_len r c 4
  have : (metL r c).length * 5 ^ k ≤ 4 * 5 ^ k := Nat.mul_le_mul_right _ h4
  have hp : 0 < 5 ^ k := Nat.pow_pos (by decide)
  omega
theorem msr_step {r : Rc} {L : List Cl} (H : CovOk r L) (i : Nat) (hi : i < L.length) (hl : L[i].l < 32) : msr (L.take i ++ metL r L[i] ++ L.drop (i + 1)) < msr L := by
  have h1 := msr_met (r := r) (H.ok _ (List.getElem_mem hi)) hl
  conv => rhs; rw [split_at L i hi]
  rw [msr_append, msr_append, msr_append, msr_append]
  have : msr [L[i]] = 5 ^ (32 - L[i].l).toNat := by simp [msr]
  omega
theorem CovOk.root {r : Rc} (h0 : 0 ≤ r.a) (h1 : r.c ≤ 4294967295) (h2 : 0 ≤ r.b) (h3 : r.d ≤ 4294967295) (h4 : r.a ≤ r.c) (h5 : r.b ≤ r.d) : CovOk r [⟨0, 0, 0⟩] := by
  have hp : pw 0 = 4294967296 := by decide
  have hok : okC ⟨0, 0, 0⟩ := ⟨by decide, by decide, by decide, by decide, by decide, by decide, by decide, by decide⟩
  refine ⟨fun c hc => ?_, fun c hc => ?_, fun x y hr => ?_⟩
  · rw [List.mem_singleton.1 hc]; exact hok
  · rw [List.mem_singleton.1 hc, mt_iff]
    show max 0 r.a ≤ min (0 + (pw 0 - 1)) r.c ∧ _ ≤ min (0 + (pw 0 - 1)) r.d
    rw [hp]
    show _ ∧ max 0 r.b ≤ _
    omega
  · have : inC x y ⟨0, 0, 0⟩ = true := by
      unfold inC
      simp only [decide_eq_true_eq]
      rw [hp]
      unfold inR at hr
      omega
    simp [this]
end Go.Proofs.Ytdepmoocjnmbeaa
