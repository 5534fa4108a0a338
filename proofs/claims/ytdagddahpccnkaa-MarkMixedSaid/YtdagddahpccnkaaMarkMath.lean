/-
  Marks as numbers; which may be: Check of package mark.
-/
import Derived.Test.YtdagddahpccnkaaMarkCheck
import Derived.Deep.DeepCutAuto
namespace Go.Proofs.Ytdagddahpccnkaa
open Go.RowKit
set_option linter.unusedVariables false
set_option linter.unusedSimpArgs false

/-- A mark's cells: its Epoch, its Place, its Ages from 4 on, its Map from 36 on. -/
def agesL (F : Nat → Int) : List Int := (List.range 32).map fun i => F (4 + i)
def mapL (F : Nat → Int) : List Int := (List.range 256).map fun i => F (36 + i)
theorem agesL_len (F : Nat → Int) : (agesL F).length = 32 := by simp [agesL]
theorem mapL_len (F : Nat → Int) : (mapL F).length = 256 := by simp [mapL]
theorem agesL_at (F : Nat → Int) (i : Nat) (h : i < 32) : miAt (agesL F) i = F (4 + i) := by
  rw [show miAt (agesL F) i = atR miT (agesL F) i from rfl, atR_eq _ i (by rw [agesL_len]; exact h)]; simp [agesL]
theorem mapL_at (F : Nat → Int) (i : Nat) (h : i < 256) : miAt (mapL F) i = F (36 + i) := by
  rw [show miAt (mapL F) i = atR miT (mapL F) i from rfl, atR_eq _ i (by rw [mapL_len]; exact h)]; simp [mapL]
def mOk (F : Nat → Int) : Bool := decide (1 ≤ F 0) && (decide (F 0 ≤ 4294967295) && (!(F 1 == F 3) && ([F 1, F 3].all (inB 31) && ([F 2].all (inB 32) && ((agesL F).all (inB 4294967295) && ((mapL F).all (inB 65535) && F 36 == 0))))))
def mCk (F : Nat → Int) : Int := if mOk F then 0 else 4
/-- What the walk of Check decides, one by one. -/
theorem mCk_ways (F : Nat → Int) : (mCk F = 4 ∧ decide (F 0 < 1) = true) ∨ (mCk F = 4 ∧ decide (F 0 < 1) = false ∧ decide (4294967295 < F 0) = true) ∨
    ((decide (F 0 < 1) = false ∧ decide (4294967295 < F 0) = false) ∧ ((mCk F = 4 ∧ (F 1 == F 3) = true) ∨ ((F 1 == F 3) = false ∧ ((mCk F = 4 ∧ (![F 1, F 3].all (inB 31)) = true) ∨ ((![F 1, F 3].all (inB 31)) = false ∧ ((mCk F = 4 ∧ (![F 2].all (inB 32)) = true) ∨ ((![F 2].all (inB 32)) = false ∧
      ((mCk F = 4 ∧ (!(agesL F).all (inB 4294967295)) = true) ∨ ((!(agesL F).all (inB 4294967295)) = false ∧ ((mCk F = 4 ∧ (!(mapL F).all (inB 65535)) = true) ∨ ((!(mapL F).all (inB 65535)) = false ∧ ((mCk F = 4 ∧ (F 36 != 0) = true) ∨ (mCk F = 0 ∧ (F 36 != 0) = false))))))))))))) := by
  have e1 : decide (1 ≤ F 0) = !decide (F 0 < 1) := by by_cases h : F 0 < 1 <;> simp [h] <;> omega
  have e2 : decide (F 0 ≤ 4294967295) = !decide (4294967295 < F 0) := by by_cases h : 4294967295 < F 0 <;> simp [h] <;> omega
  have e3 : (F 36 != 0) = !(F 36 == 0) := rfl
  unfold mCk mOk
  rw [e1, e2, e3]
  generalize decide (F 0 < 1) = b1
  generalize decide (4294967295 < F 0) = b2
  generalize (F 1 == F 3) = b3
  generalize [F 1, F 3].all (inB 31) = b4
  generalize [F 2].all (inB 32) = b5
  generalize (agesL F).all (inB 4294967295) = b6
  generalize (mapL F).all (inB 65535) = b7
  generalize (F 36 == 0) = b8
  cases b1 <;> cases b2 <;> cases b3 <;> cases b4 <;> cases b5 <;> cases b6 <;> cases b7 <;> cases b8 <;> simp

/-- The rows of a mark's block. -/
theorem ages_row {w : World} {g : Nat} {c : Array Value} {F : Nat → Int} (B : Blk w g c) (N : Nums c .i64 292 F) : RowOf miT w (some ⟨g, 4, none⟩) (agesL F) := by
  refine .inr ⟨g, 4, rfl, B.lt, fun i hi j v hv => ?_⟩
  rw [agesL_len] at hi
  have hj : j = 0 := by
    rcases j with _ | j
    · rfl
    · simp [miT] at hv
  subst hj
  have hv2 : Value.int .i64 (atR miT (agesL F) i) = v := Option.some.inj hv
  show w.cell? ⟨g, 4 + i * 1 + 0, none⟩ = _
  rw [show 4 + i * 1 + 0 = 4 + i by omega, B.cell, N.get (4 + i) (by omega), ← hv2, show atR miT (agesL F) i = miAt (agesL F) i from rfl, agesL_at F i hi]
theorem map_row {w : World} {g : Nat} {c : Array Value} {F : Nat → Int} (B : Blk w g c) (N : Nums c .i64 292 F) : RowOf miT w (some ⟨g, 36, none⟩) (mapL F) := by
  refine .inr ⟨g, 36, rfl, B.lt, fun i hi j v hv => ?_⟩
  rw [mapL_len] at hi
  have hj : j = 0 := by
    rcases j with _ | j
    · rfl
    · simp [miT] at hv
  subst hj
  have hv2 : Value.int .i64 (atR miT (mapL F) i) = v := Option.some.inj hv
  show w.cell? ⟨g, 36 + i * 1 + 0, none⟩ = _
  rw [show 36 + i * 1 + 0 = 36 + i by omega, B.cell, N.get (36 + i) (by omega), ← hv2, show atR miT (mapL F) i = miAt (mapL F) i from rfl, mapL_at F i hi]

theorem row_two (w : World) (a b : Int) (t : TypeId) : RowOf miT (w.alloc (.cells #[.int .i64 a, .int .i64 b] t)) (some ⟨w.heap.size, 0, none⟩) [a, b] := by
  have B := Blk.new w #[.int .i64 a, .int .i64 b] t
  refine .inr ⟨_, 0, rfl, B.lt, fun i hi j v hv => ?_⟩
  have hj : j = 0 := by
    rcases j with _ | j
    · rfl
    · simp [miT] at hv
  subst hj
  have hi2 : i < 2 := by simpa using hi
  show (w.alloc _).cell? ⟨w.heap.size, 0 + i * 1 + 0, none⟩ = _
  rw [B.cell]
  match i, hi2, hv with
  | 0, _, hv => simpa [miT, atR] using hv
  | 1, _, hv => simpa [miT, atR] using hv

set_option maxRecDepth 100000 in
set_option maxHeartbeats 8000000 in
theorem mcheck_any (c : Array Value) (F : Nat → Int) (N : Nums c .i64 292 F) (w : World) :
    Calls Try.prog 10 #[.agg c] w fun e w' => e = .returned (.int .i64 (mCk F)) ∧ Below w.heap.size w w' := by
  have BX := Blk.new w c 27
  have hb := (Below.refl w.heap.size w).alloc (Nat.le_refl _) (.cells c 27)
  have KA := hid (fun (wx : World) (hx : Below (w.alloc (.cells c 27)).heap.size (w.alloc (.cells c 27)) wx) => mout_any 4294967295 (agesL F) (some ⟨w.heap.size, 4, none⟩) 32 (by rw [agesL_len]; exact Nat.le_refl _) (by unfold maxLen; omega) wx (ages_row (BX.more hx) N))
  have KM := hid (fun (wx : World) (hx : Below (w.alloc (.cells c 27)).heap.size (w.alloc (.cells c 27)) wx) => mout_any 65535 (mapL F) (some ⟨w.heap.size, 36, none⟩) 256 (by rw [mapL_len]; exact Nat.le_refl _) (by unfold maxLen; omega) wx (map_row (BX.more hx) N))
  rw [agesL_len] at KA
  rw [mapL_len] at KM
  have KP := hid (fun (wx : World) => mout_any 31 [F 1, F 3] (some ⟨wx.heap.size, 0, none⟩) 2 (by simp) (by unfold maxLen; omega) _ (row_two wx (F 1) (F 3) 3))
  have KO := hid (fun (wx : World) => mout_any 32 [F 2] (some ⟨wx.heap.size, 0, none⟩) 1 (by simp) (by unfold maxLen; omega) _ (rowOf_one miOk (Blk.new wx #[.int .i64 (F 2)] 3) rfl))
  simp only [List.length_cons, List.length_nil, Nat.zero_add, Nat.reduceAdd] at KP KO
  have n0 := N.get 0 (by omega)
  have n1 := N.get 1 (by omega)
  have n2 := N.get 2 (by omega)
  have n3 := N.get 3 (by omega)
  have n36 := N.get 36 (by omega)
  have hW := mCk_ways F
  have BXh := hid BX
  have hbh := hid hb
  have hsz : c.size = 292 := N.size
  generalize mCk F = C at *
  generalize (![F 1, F 3].all (inB 31)) = b1 at *
  generalize (![F 2].all (inB 32)) = b2 at *
  generalize (!(agesL F).all (inB 4294967295)) = b3 at *
  generalize (!(mapL F).all (inB 65535)) = b4 at *
  generalize F 0 = f0 at *
  generalize F 1 = f1 at *
  generalize F 2 = f2 at *
  generalize F 3 = f3 at *
  generalize F 36 = f36 at *
  clear N hb BX
  replace hsz := hid hsz
  go_enter Try.func10, Try.ntmps10
  go_upto_region 1 with (fail)
  generalize w.alloc _ = W0 at *
  obtain ⟨lx, kx, fx⟩ := BXh.out
  rcases hW with ⟨hC, g1⟩ | ⟨hC, g1, g2⟩ | ⟨⟨g1, g2⟩, ⟨hC, g3⟩ | ⟨g3, ⟨hC, g4⟩ | ⟨g4, ⟨hC, g5⟩ | ⟨g5, ⟨hC, g6⟩ | ⟨g6, ⟨hC, g7⟩ | ⟨g7, ⟨hC, g8⟩ | ⟨hC, g8⟩⟩⟩⟩⟩⟩⟩
  all_goals subst hC
  all_goals try subst g4
  all_goals try subst g5
  all_goals try subst g6
  all_goals try subst g7
  iterate 3
    · clear KP KO KA KM
      go_wp2_with fail
      go_ret
      exact ⟨rfl, hbh.out⟩
  all_goals
    go_wp2_with fail
    refine (KP.out _).mono ?_
    rintro e w1 ⟨rfl, h1⟩
    have H1 := hid (((Below.refl W0.heap.size W0).alloc (Nat.le_refl _) (.cells #[.int .i64 f1, .int .i64 f3] 3)).trans (h1.mono (by simp)))
    clear lx kx fx h1 KP
    obtain ⟨lx, kx, fx⟩ := BXh.out.more H1.out
  · clear KO KA KM
    have D := hid (below2 hbh.out H1.out hbh.out.size)
    go_wp2_with fail
    go_ret
    exact ⟨rfl, D.out⟩
  all_goals
    go_wp2_with fail
    refine (KO.out _).mono ?_
    rintro e w2 ⟨rfl, h2⟩
    have H2 := hid (H1.out.trans ((((Below.refl w1.heap.size w1).alloc (Nat.le_refl _) (.cells #[.int .i64 f2] 3)).trans (h2.mono (by simp))).mono H1.out.size))
    clear lx kx fx h2 KO
    obtain ⟨lx, kx, fx⟩ := BXh.out.more H2.out
  · clear KA KM
    have D := hid (below2 hbh.out H2.out hbh.out.size)
    go_wp2_with fail
    go_ret
    exact ⟨rfl, D.out⟩
  all_goals
    go_wp2_with fail
    refine (KA.out _ H2.out).mono ?_
    rintro e w3 ⟨rfl, h3⟩
    have H3 := hid (below2 H2.out h3 H2.out.size)
    clear lx kx fx h3 KA
    obtain ⟨lx, kx, fx⟩ := BXh.out.more H3.out
  · clear KM
    have D := hid (below2 hbh.out H3.out hbh.out.size)
    go_wp2_with fail
    go_ret
    exact ⟨rfl, D.out⟩
  all_goals
    go_wp2_with fail
    refine (KM.out _ H3.out).mono ?_
    rintro e w4 ⟨rfl, h4⟩
    have H4 := hid (below2 H3.out h4 H3.out.size)
    clear lx kx fx h4 KM
    obtain ⟨lx, kx, fx⟩ := BXh.out.more H4.out
    have D := hid (below2 hbh.out H4.out hbh.out.size)
    go_wp2_with fail
    go_ret
    exact ⟨rfl, D.out⟩
end Go.Proofs.Ytdagddahpccnkaa
