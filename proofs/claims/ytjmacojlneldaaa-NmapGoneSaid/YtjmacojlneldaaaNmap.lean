/-
  Package nmap: where nodes are: set, listed; whether no sector has two.
-/
import Derived.Test.YtjmacojlneldaaaBig
import Derived.Test.YtjmacojlneldaaaIntRow
import Derived.Test.YtjmacojlneldaaaLift
import Derived.Great.Walk
import Derived.OwnWalk
import Derived.Maps.OwnOps
import Derived.Maps.Views
namespace Go.Proofs.Ytjmacojlneldaaa
open Go.RowKit Go.Maps
set_option linter.unusedVariables false
set_option linter.unusedSimpArgs false

theorem tab256n : (Try.prog.info? 44).map (·.size) = some 256 := by kernel_rfl
theorem alloc256n (ρ : Operand → Value) (dst : Option Tmp) (ty : TypeId) (pos : String) (af : Array Edge) (w : World) : (execOp ρ { dst := dst, op := .alloc 44, type := ty, pos := pos, after := af, guard := none }).run Try.prog w =
    .ok (.value (.pointer (some ⟨w.heap.size, 0, none⟩))) (w.alloc (.cells (Array.replicate 256 (.int .i64 0)) 44)) := by kernel_rfl
theorem index_anyn (t : TypeId) (m : Nat) (h : Try.prog.underlying t = some (.array m 3)) {c : Array Value} {k : IntKind} {F : Nat → Int} (hc : ∀ j, j < m → c[j]? = some (.int k (F j))) (i : Nat) (hi : i < m) (w : World) :
    (Instr.index t (.agg c) (.int .i64 (i : Int))).run Try.prog w = .ok (.int k (F i)) w := by
  have hi' : (0 : Int) ≤ (i : Int) ∧ (i : Int) < (m : Int) := by omega
  have e1 : ∀ w, (isAgg 3).run Try.prog w = .ok false w := fun w => by kernel_rfl
  have e2 : ∀ w, (sizeOf 3).run Try.prog w = .ok 1 w := fun w => by kernel_rfl
  simp [Instr.index, asIntOf, run_underlying h, hi', hi, part, e1, e2, hc i hi]

/-- m with a node at a sector, as its cells. -/
def setC (c : Array Value) (id a : Int) : Array Value := if 0 < id ∧ id < 256 then c.setIfInBounds id.toNat (.int .i64 a) else c
def setF (F : Nat → Int) (id a : Int) (j : Nat) : Int := if (0 < id ∧ id < 256) ∧ (j : Int) = id then a else F j
theorem set_nums {c : Array Value} {F : Nat → Int} (hc : Nums c .i64 256 F) (id a : Int) : Nums (setC c id a) .i64 256 (setF F id a) := by
  unfold setC setF
  by_cases h : 0 < id ∧ id < 256
  · rw [if_pos h]
    refine hc.set (by omega) fun j hj => ?_
    by_cases e : (j : Int) = id
    · rw [if_pos ⟨h, e⟩, if_pos (by omega)]
    · rw [if_neg (fun x => e x.2), if_neg (by omega)]
  · rw [if_neg h]
    exact hc.congr fun j hj => if_neg fun x => h x.1

set_option maxRecDepth 100000 in
set_option maxHeartbeats 2000000 in
theorem nset_any (c : Array Value) (F : Nat → Int) (hc : Nums c .i64 256 F) (id a : Int) (w : World) :
    Calls Try.prog 28 #[.agg c, .int .i64 id, .int .i64 a] w fun e w' => e = .returned (.agg (setC c id a)) ∧ Below w.heap.size w w' := by
  have sz := hc.size
  have one := hc.one
  have NS := set_nums hc id a
  have szs := NS.size
  have ones := NS.one
  have hin : ∀ h : 0 < id ∧ id < 256, ∃ j : Nat, id = j ∧ j < 256 ∧ setC c id a = c.setIfInBounds j (.int .i64 a) := fun h => ⟨id.toNat, by omega, by omega, by unfold setC; rw [if_pos h]⟩
  have hout : ¬ (0 < id ∧ id < 256) → setC c id a = c := fun h => by unfold setC; rw [if_neg h]
  obtain ⟨B0, B1, H⟩ := @boxed2 w _ c (Array.replicate 256 (.int .i64 0)) 44 44 (Below.refl _ _)
  have hB0 := hid B0
  have hB1 := hid B1
  have HH := hid H
  have hcc := hid hc.get
  generalize setC c id a = c' at *
  clear hc NS B1 H
  obtain ⟨W, hW⟩ : ∃ W, (w.alloc (.cells c 44)).alloc (.cells (Array.replicate 256 (.int .i64 0)) 44) = W := ⟨_, rfl⟩
  rw [hW] at hB0 hB1 HH B0
  by_cases h : 0 < id ∧ id < 256
  · obtain ⟨j, rfl, hj, e⟩ := hin h
    have z0 := (B0.cell j).trans (hcc.out j hj)
    have f0 := B0.frz
    have l0 := B0.lt
    have Z0 := hid (hB0.out.set j (.int .i64 a) (by rw [sz]; exact hj))
    have Z1 := hid (hB1.out.other ⟨w.heap.size, j, none⟩ (by show w.heap.size ≠ w.heap.size + 1; omega) (.int .i64 a))
    rw [← e] at Z0
    have h1 : (0 : Int) < (j : Int) := h.1
    have h1' : 0 < j := by omega
    have h2 : (j : Int) < 256 := h.2
    have hj0 : (0 : Int) ≤ (j : Int) := by omega
    have HZ := hid (Below.setCell (p := ⟨w.heap.size, j, none⟩) HH.out (Nat.le_refl _) (.int .i64 a))
    have th := Z1.out.there (n := c'.size) (by rw [szs]; simp)
    have hr := hid Z0.out.range
    replace e := hid e
    clear hin hout B0
    go_enter Try.func28, Try.ntmps28
    go_wp2_with (first
      | (refine Go.Great.wpList_runTo rfl (some 6) rfl _ _ (alloc256n _ _ _ _ _ _) ?_)
      | (refine wpList_load_mid rfl 44 _ rfl w.heap.size 0 rfl c'.toList _ hr.out Try.underlying44 rfl (by rw [tab256n]; simp [szs]) ?_)
      | (refine wpList_store_mid rfl 44 _ _ rfl (w.heap.size + 1) 0 c' rfl rfl th (by rw [tab256n, szs]) ones ?_))
    refine bodyPost_ret (v := .agg c') (results_blk rfl _ _ (w.heap.size + 1) c' _ rfl (Z1.out.whole (by rw [szs]; simp)) Try.underlying44 rfl (by rw [tab256n, szs])) rfl ⟨rfl, below_cells HZ.out (by omega) _ _⟩
  · have e := hout h
    subst e
    have hr := hid hB0.out.range
    have th := hB1.out.there (n := c'.size) (by rw [szs]; simp)
    have ways : decide (0 < id) = false ∨ (0 < id ∧ decide (id < 256) = false) := by
      by_cases h1 : 0 < id
      · exact .inr ⟨h1, decide_eq_false fun h2 => h ⟨h1, h2⟩⟩
      · exact .inl (decide_eq_false h1)
    clear hin hout B0 h
    rcases ways with g | ⟨g1, g2⟩
    all_goals
      go_enter Try.func28, Try.ntmps28
      go_wp2_with (first
        | (refine Go.Great.wpList_runTo rfl (some 6) rfl _ _ (alloc256n _ _ _ _ _ _) ?_)
        | (refine wpList_load_mid rfl 44 _ rfl w.heap.size 0 rfl c'.toList _ hr.out Try.underlying44 rfl (by rw [tab256n]; simp [szs]) ?_)
        | (refine wpList_store_mid rfl 44 _ _ rfl (w.heap.size + 1) 0 c' rfl rfl th (by rw [tab256n, szs]) ones ?_))
      refine bodyPost_ret (v := .agg c') (results_blk rfl _ _ (w.heap.size + 1) c' _ rfl (hB1.out.whole (by rw [szs]; simp)) Try.underlying44 rfl (by rw [tab256n, szs])) rfl ⟨rfl, below_cells HH.out (by omega) _ _⟩

/-- The Ids up to k that are somewhere. -/
def idsL (F : Nat → Int) : Nat → List Int
  | 0 => []
  | k + 1 => idsL F k ++ if decide (0 < (k : Int)) && (F k != 0) then [(k : Int)] else []
theorem ids_len (F : Nat → Int) : ∀ k, (idsL F k).length ≤ k
  | 0 => Nat.le_refl _
  | k + 1 => by
    have := ids_len F k
    unfold idsL
    split <;> simp only [List.length_append, List.length_nil, List.length_singleton] <;> omega
theorem ids_mem (F : Nat → Int) : ∀ k x, x ∈ idsL F k → ∃ j : Nat, j < k ∧ 0 < j ∧ x = j ∧ F j ≠ 0
  | 0, x, h => by cases h
  | k + 1, x, h => by
    rcases List.mem_append.1 h with h | h
    · obtain ⟨j, hj, e⟩ := ids_mem F k x h
      exact ⟨j, by omega, e⟩
    · split at h
      · rename_i hb
        simp only [Bool.and_eq_true, decide_eq_true_eq, bne_iff_ne, ne_eq] at hb
        exact ⟨k, by omega, by omega, by simpa using h, hb.2⟩
      · cases h

set_option maxRecDepth 100000 in
set_option maxHeartbeats 1000000 in
theorem ids_any (c : Array Value) (F : Nat → Int) (hc : Nums c .i64 256 F) (w : World) :
    Calls Try.prog 29 #[.agg c] w fun e w' => ∃ v, e = .returned v ∧ IntsOwn w' w.heap.size v (idsL F 256) ∧ Below w.heap.size w w' := by
  obtain ⟨j0, hj, hy0, hy1, hy2⟩ := info_parts intTab
  obtain ⟨R, hR⟩ : ∃ R, idsL F 256 = R := ⟨_, rfl⟩
  rw [hR]
  have hR := hid (show ∀ k, k = 256 → idsL F k = R from fun k hk => by rw [hk]; exact hR)
  rename_i hR0
  clear hR0
  have sz := hc.size
  have NC := hid hc
  obtain ⟨B0, H⟩ := @boxed1 w _ c 44 (Below.refl _ _)
  have HH := hid H
  have hr := hid B0.range
  clear hc H B0
  go_enter Try.func29, Try.ntmps29
  obtain ⟨W, hW⟩ : ∃ W, w.alloc (.cells c 44) = W := ⟨_, rfl⟩
  rw [hW] at HH hr
  go_wp2_with (refine wpList_load_mid rfl 44 _ rfl w.heap.size 0 rfl c.toList _ hr.out Try.underlying44 rfl (by rw [tab256n]; simp [sz]) ?_)
  have hWs := HH.out.size
  replace hW := hid hW
  go_loopw [3, 7] (fun v i wr => ∃ k : Nat, k ≤ 256 ∧ i = .int .i64 (k : Int) ∧ IntsOwn wr W.heap.size v (idsL F k) ∧ Below W.heap.size W wr) (fun _ i _ => 256 - (intOf i).toNat)
  case atStart => exact ⟨0, by omega, rfl, IntsOwn.nil _ _, Below.refl _ _⟩
  case round =>
    obtain ⟨k, hk, rfl, HK, Hb⟩ := hrel
    by_cases hlt : k < 256
    · have hx := fun w => index_anyn 44 256 Try.underlying44 (k := .i64) NC.out.get k hlt w
      have hlen := ids_len F k
      have hst : idsL F (k + 1) = idsL F k ++ if decide (0 < (k : Int)) && (F k != 0) then [(k : Int)] else [] := rfl
      generalize F k = s at *
      obtain ⟨L, hLe⟩ : ∃ L, idsL F k = L := ⟨_, rfl⟩
      rw [hLe] at HK hlen hst
      replace hLe := hid hLe
      obtain ⟨pv, cv, rfl, c1, c2, RV⟩ := HK.open
      have hlt1 : (k : Int) < 256 := by omega
      have HKh := hid HK
      have Hbh := hid Hb
      have sz3 := Hb.size
      clear RV HK Hb c1 c2
      replace hst := hid hst
      by_cases h0 : (0 : Int) < (k : Int)
      · have h0n : 0 < k := by omega
        cases h1 : s != 0 with
        | false =>
          have hst' := hid (show idsL F (k + 1) = L ++ [] by rw [hst.out, decide_eq_true h0, h1]; rfl)
          go_wp2_with fail
          go_roundw
          case rel => exact ⟨k + 1, by omega, by go_num, by rw [hst'.out, List.append_nil]; exact HKh.out, Hbh.out⟩
          case measure => simp [intOf]; omega
        | true =>
          have hst' := hid (show idsL F (k + 1) = L ++ [(k : Int)] by rw [hst.out, decide_eq_true h0, h1]; rfl)
          have hnews := hid (new_cells wr #[.int .i64 (k : Int)] 3)
          have OO := hid (show wr.ownsRow W.heap.size 3 1 (.slice pv L.length cv) L.length (L.map (Value.int .i64)) from HKh.out)
          go_wp2_with (at_builtin; refine wpList_append_own _ rfl _ _ 22 rfl W.heap.size 3 j0 (.int .i64 0) 1 8 Try.underlying22 hj hy0 hy1 hy2 rfl (by decide) (.slice pv L.length cv) L.length (L.map (Value.int .i64)) (by kernel_rfl) (OO.out.alloc _) ⟨wr.heap.size, 0, none⟩ 1 1 [.int .i64 (k : Int)] (by kernel_rfl) rfl hnews.out (one_int _) (by unfold maxLen; omega) (by omega) (by first | omega | (simp; omega)) ?_)
          intro v9 w9 hown hgrow hne
          have E := hid (ints_grow Hbh.out HKh.out sz3 hown hgrow)
          clear hown hgrow hne hnews OO
          go_wp2_with fail
          go_roundw
          case rel => exact ⟨k + 1, by omega, by go_num, by rw [hst'.out]; exact E.out.1, E.out.2⟩
          case measure => simp [intOf]; omega
      · have hst' := hid (show idsL F (k + 1) = L ++ [] by rw [hst.out, decide_eq_false h0]; rfl)
        have h0n : decide (0 < k) = false := decide_eq_false (by omega)
        replace h0 := decide_eq_false h0
        go_wp2_with fail
        go_roundw
        case rel => exact ⟨k + 1, by omega, by go_num, by rw [hst'.out, List.append_nil]; exact HKh.out, Hbh.out⟩
        case measure => simp [intOf]; omega
    · obtain rfl : k = 256 := by omega
      rw [hR.out _ rfl] at HK
      have HKh := hid HK
      have Hbh := hid (below2 HH.out Hb HH.out.size)
      clear HK Hb
      go_wp2_with fail
      go_ret
      exact ⟨_, rfl, HKh.out.mono hWs, Hbh.out⟩
end Go.Proofs.Ytjmacojlneldaaa
