/-
  The table of package crc: what each octet changes in a sum.
-/
import Derived.Test.YtpgibngohbohdaaCrc
namespace Go.Proofs.Ytpgibngohbohdaa
open Go.RowKit
set_option linter.unusedVariables false
set_option linter.unusedSimpArgs false
set_option maxRecDepth 100000

theorem alloc_tab (ρ : Operand → Value) (dst : Option Tmp) (ty : TypeId) (pos : String) (af : Array Edge) (w : World) : (execOp ρ { dst := dst, op := .alloc 171, type := ty, pos := pos, after := af, guard := none }).run Try.prog w =
    .ok (.value (.pointer (some ⟨w.heap.size, 0, none⟩))) (w.alloc (.cells (Array.replicate 256 (.int .u32 0)) 171)) := by kernel_rfl

/-- A table under way: the entries of all multiples of 2 B, and of those of B up to 2 B m. -/
def wayG (B m j : Nat) : Int := if j % (2 * B) = 0 ∨ (j % B = 0 ∧ j < m * (2 * B)) then (tabN j : Int) else 0

theorem tab_step0 : ∀ m, m < 1 → tabN (m * 256 + 128) = tabN (m * 256) ^^^ 3988292384 := by
  have key : ∀ m : Fin 1, tabN (m.val * 256 + 128) = tabN (m.val * 256) ^^^ 3988292384 := by decide +kernel
  exact fun m hm => key ⟨m, hm⟩
theorem way_step0 (m : Nat) (j : Nat) : wayG 128 (m + 1) j = if j = m * 256 + 128 then (tabN (m * 256 + 128) : Int) else wayG 128 m j := by
  unfold wayG
  by_cases e : j = m * 256 + 128
  · subst e; rw [if_pos (.inr (by omega)), if_pos rfl]
  · rw [if_neg e]
    by_cases h : j % (2 * 128) = 0 ∨ (j % 128 = 0 ∧ j < m * (2 * 128))
    · rw [if_pos h, if_pos (by omega)]
    · rw [if_neg h, if_neg (by omega)]
theorem tab_step1 : ∀ m, m < 2 → tabN (m * 128 + 64) = tabN (m * 128) ^^^ 1994146192 := by
  have key : ∀ m : Fin 2, tabN (m.val * 128 + 64) = tabN (m.val * 128) ^^^ 1994146192 := by decide +kernel
  exact fun m hm => key ⟨m, hm⟩
theorem way_step1 (m : Nat) (j : Nat) : wayG 64 (m + 1) j = if j = m * 128 + 64 then (tabN (m * 128 + 64) : Int) else wayG 64 m j := by
  unfold wayG
  by_cases e : j = m * 128 + 64
  · subst e; rw [if_pos (.inr (by omega)), if_pos rfl]
  · rw [if_neg e]
    by_cases h : j % (2 * 64) = 0 ∨ (j % 64 = 0 ∧ j < m * (2 * 64))
    · rw [if_pos h, if_pos (by omega)]
    · rw [if_neg h, if_neg (by omega)]
theorem tab_step2 : ∀ m, m < 4 → tabN (m * 64 + 32) = tabN (m * 64) ^^^ 997073096 := by
  have key : ∀ m : Fin 4, tabN (m.val * 64 + 32) = tabN (m.val * 64) ^^^ 997073096 := by decide +kernel
  exact fun m hm => key ⟨m, hm⟩
theorem way_step2 (m : Nat) (j : Nat) : wayG 32 (m + 1) j = if j = m * 64 + 32 then (tabN (m * 64 + 32) : Int) else wayG 32 m j := by
  unfold wayG
  by_cases e : j = m * 64 + 32
  · subst e; rw [if_pos (.inr (by omega)), if_pos rfl]
  · rw [if_neg e]
    by_cases h : j % (2 * 32) = 0 ∨ (j % 32 = 0 ∧ j < m * (2 * 32))
    · rw [if_pos h, if_pos (by omega)]
    · rw [if_neg h, if_neg (by omega)]
theorem tab_step3 : ∀ m, m < 8 → tabN (m * 32 + 16) = tabN (m * 32) ^^^ 498536548 := by
  have key : ∀ m : Fin 8, tabN (m.val * 32 + 16) = tabN (m.val * 32) ^^^ 498536548 := by decide +kernel
  exact fun m hm => key ⟨m, hm⟩
theorem way_step3 (m : Nat) (j : Nat) : wayG 16 (m + 1) j = if j = m * 32 + 16 then (tabN (m * 32 + 16) : Int) else wayG 16 m j := by
  unfold wayG
  by_cases e : j = m * 32 + 16
  · subst e; rw [if_pos (.inr (by omega)), if_pos rfl]
  · rw [if_neg e]
    by_cases h : j % (2 * 16) = 0 ∨ (j % 16 = 0 ∧ j < m * (2 * 16))
    · rw [if_pos h, if_pos (by omega)]
    · rw [if_neg h, if_neg (by omega)]
theorem tab_step4 : ∀ m, m < 16 → tabN (m * 16 + 8) = tabN (m * 16) ^^^ 249268274 := by
  have key : ∀ m : Fin 16, tabN (m.val * 16 + 8) = tabN (m.val * 16) ^^^ 249268274 := by decide +kernel
  exact fun m hm => key ⟨m, hm⟩
theorem way_step4 (m : Nat) (j : Nat) : wayG 8 (m + 1) j = if j = m * 16 + 8 then (tabN (m * 16 + 8) : Int) else wayG 8 m j := by
  unfold wayG
  by_cases e : j = m * 16 + 8
  · subst e; rw [if_pos (.inr (by omega)), if_pos rfl]
  · rw [if_neg e]
    by_cases h : j % (2 * 8) = 0 ∨ (j % 8 = 0 ∧ j < m * (2 * 8))
    · rw [if_pos h, if_pos (by omega)]
    · rw [if_neg h, if_neg (by omega)]
theorem tab_step5 : ∀ m, m < 32 → tabN (m * 8 + 4) = tabN (m * 8) ^^^ 124634137 := by
  have key : ∀ m : Fin 32, tabN (m.val * 8 + 4) = tabN (m.val * 8) ^^^ 124634137 := by decide +kernel
  exact fun m hm => key ⟨m, hm⟩
theorem way_step5 (m : Nat) (j : Nat) : wayG 4 (m + 1) j = if j = m * 8 + 4 then (tabN (m * 8 + 4) : Int) else wayG 4 m j := by
  unfold wayG
  by_cases e : j = m * 8 + 4
  · subst e; rw [if_pos (.inr (by omega)), if_pos rfl]
  · rw [if_neg e]
    by_cases h : j % (2 * 4) = 0 ∨ (j % 4 = 0 ∧ j < m * (2 * 4))
    · rw [if_pos h, if_pos (by omega)]
    · rw [if_neg h, if_neg (by omega)]
theorem tab_step6 : ∀ m, m < 64 → tabN (m * 4 + 2) = tabN (m * 4) ^^^ 3993919788 := by
  have key : ∀ m : Fin 64, tabN (m.val * 4 + 2) = tabN (m.val * 4) ^^^ 3993919788 := by decide +kernel
  exact fun m hm => key ⟨m, hm⟩
theorem way_step6 (m : Nat) (j : Nat) : wayG 2 (m + 1) j = if j = m * 4 + 2 then (tabN (m * 4 + 2) : Int) else wayG 2 m j := by
  unfold wayG
  by_cases e : j = m * 4 + 2
  · subst e; rw [if_pos (.inr (by omega)), if_pos rfl]
  · rw [if_neg e]
    by_cases h : j % (2 * 2) = 0 ∨ (j % 2 = 0 ∧ j < m * (2 * 2))
    · rw [if_pos h, if_pos (by omega)]
    · rw [if_neg h, if_neg (by omega)]
theorem tab_step7 : ∀ m, m < 128 → tabN (m * 2 + 1) = tabN (m * 2) ^^^ 1996959894 := by
  have key : ∀ m : Fin 128, tabN (m.val * 2 + 1) = tabN (m.val * 2) ^^^ 1996959894 := by decide +kernel
  exact fun m hm => key ⟨m, hm⟩
theorem way_step7 (m : Nat) (j : Nat) : wayG 1 (m + 1) j = if j = m * 2 + 1 then (tabN (m * 2 + 1) : Int) else wayG 1 m j := by
  unfold wayG
  by_cases e : j = m * 2 + 1
  · subst e; rw [if_pos (.inr (by omega)), if_pos rfl]
  · rw [if_neg e]
    by_cases h : j % (2 * 1) = 0 ∨ (j % 1 = 0 ∧ j < m * (2 * 1))
    · rw [if_pos h, if_pos (by omega)]
    · rw [if_neg h, if_neg (by omega)]

set_option maxRecDepth 100000 in
set_option maxHeartbeats 32000000 in
theorem table_any (w : World) : Calls Try.prog 104 #[] w fun e w' => e = .returned (.agg (tabC tabN)) ∧ Below w.heap.size w w' := by
  have K0 := fun w => half_any 1 (by decide) w
  rw [show halfN 1 = 3988292384 from by decide] at K0
  replace K0 := hid K0
  have K1 := fun w => half_any 3988292384 (by decide) w
  rw [show halfN 3988292384 = 1994146192 from by decide] at K1
  replace K1 := hid K1
  have K2 := fun w => half_any 1994146192 (by decide) w
  rw [show halfN 1994146192 = 997073096 from by decide] at K2
  replace K2 := hid K2
  have K3 := fun w => half_any 997073096 (by decide) w
  rw [show halfN 997073096 = 498536548 from by decide] at K3
  replace K3 := hid K3
  have K4 := fun w => half_any 498536548 (by decide) w
  rw [show halfN 498536548 = 249268274 from by decide] at K4
  replace K4 := hid K4
  have K5 := fun w => half_any 249268274 (by decide) w
  rw [show halfN 249268274 = 124634137 from by decide] at K5
  replace K5 := hid K5
  have K6 := fun w => half_any 124634137 (by decide) w
  rw [show halfN 124634137 = 3993919788 from by decide] at K6
  replace K6 := hid K6
  have K7 := fun w => half_any 3993919788 (by decide) w
  rw [show halfN 3993919788 = 1996959894 from by decide] at K7
  replace K7 := hid K7
  go_enter Try.func104, Try.ntmps104
  go_wp2_with (first
    | (refine Go.Great.wpList_runTo rfl (some 0) rfl _ _ (alloc_tab _ _ _ _ _ _) ?_)
    | (refine Go.Great.wpList_runTo rfl (some 1) rfl _ _ (alloc_tab _ _ _ _ _ _) ?_))
  generalize hW : World.alloc _ _ = W
  have A0 := hid (show Blk W w.heap.size (Array.replicate 256 (.int .u32 0)) from hW ▸ (Blk.new w _ _).alloc _)
  have T0 : Hid (Blk W (w.heap.size + 1) (Array.replicate 256 (.int .u32 0))) := hid (by
    have := Blk.new (w.alloc (.cells (Array.replicate 256 (.int .u32 0)) 171)) (Array.replicate 256 (.int .u32 0)) 171
    rw [World.size_alloc] at this
    exact hW ▸ this)
  have H0 := hid (show Below w.heap.size w W from hW ▸ Below.alloc (Below.alloc (Below.refl _ _) (Nat.le_refl _) _) (by rw [World.size_alloc]; omega) _)
  have C0 : Hid (∃ c, Blk W (w.heap.size + 1) c ∧ Nums c .u32 256 (wayG 128 0)) := hid ⟨_, T0.out, (nums_rep .u32 256).congr fun j hj => by
    unfold wayG
    by_cases h : j = 0
    · subst h; decide
    · rw [if_neg (by omega)]⟩
  clear hW T0
  generalize hbt : w.heap.size + 1 = bt at *
  refine wp_loop_rounds 9 ?_
  rw [rounds_succ]
  go_wp2_with fail
  refine (K0.out _).mono ?_
  rintro e v0 ⟨rfl, rfl⟩
  go_wp2_with fail
  go_loopw [5] (fun s wx => ∃ m K : Nat, Hid (K = m * 256) ∧ m ≤ 1 ∧ s = .int .i64 (K : Int) ∧ (∃ c, Blk wx bt c ∧ Nums c .u32 256 (wayG 128 m)) ∧ Blk wx w.heap.size (Array.replicate 256 (.int .u32 0)) ∧ Below w.heap.size w wx) (fun s _ => 256 - (intOf s).toNat)
  case atStart => exact ⟨0, 0, hid rfl, by omega, rfl, C0.out, A0.out, H0.out⟩
  case round =>
    clear C0 A0 H0
    obtain ⟨m, K, hK, hm, rfl, ⟨c, TC, NC⟩, A1, H1⟩ := hrel
    replace A1 := hid A1
    replace H1 := hid H1
    by_cases hlt : m < 1
    · have hk0 : K + 128 < 256 := by have := hK.out; omega
      obtain ⟨l1, k1, f1⟩ := TC
      have TC := hid (Blk.mk l1 k1 f1)
      have z := (k1 K).trans (NC.get K (by omega))
      have zt : wayG 128 m K = (tabN K : Int) := if_pos (.inl (by have := hK.out; omega))
      rw [zt] at z
      have z2 := (k1 (K + 128)).trans (NC.get (K + 128) (by omega))
      have tl := tab_lt (n := K) (by omega)
      have e1 : bits .xor .u32 (tabN K : Int) 3988292384 = (tabN (K + 128) : Int) := by
        rw [hK.out, tab_step0 m hlt]
        exact u32_xor_nat _ 3988292384 (by have := tl; rw [hK.out] at this; omega) (by decide)
      have hs : 128 ≤ 128 := by decide
      have ws := hid (way_step0 m)
      rw [← hK.out] at ws
      replace NC := hid NC
      generalize wayG 128 m (K + 128) = old at *
      generalize tabN (K + 128) = new at *
      generalize tabN K = old0 at *
      clear k1 zt tl hs
      go_wp2_with fail
      go_roundw
      case rel => exact ⟨m + 1, K + 256, hid (by rw [hK.out]; omega), by omega, by go_num, ⟨_, TC.out.set (K + 128) _ (by rw [NC.out.size]; exact hk0), NC.out.set hk0 fun j _ => ws.out j⟩, A1.out.other _ (by simp; omega) _, Below.setCell (p := ⟨bt, _, none⟩) H1.out (by simp; omega) _⟩
      case measure => simp [intOf]; omega
    · obtain rfl : m = 1 := by omega
      have hk0 : 256 ≤ K := by have := hK.out; omega
      have C1 : Hid (∃ c, Blk wr bt c ∧ Nums c .u32 256 (wayG 64 0)) := hid ⟨c, TC, NC.congr fun j hj => by
        unfold wayG
        by_cases h : j % 128 = 0
        · rw [if_pos (.inl (by omega)), if_pos (.inr (by omega))]
        · rw [if_neg (by omega), if_neg (by omega)]⟩
      clear TC NC hm
      go_wp2_with fail
      rw [rounds_succ]
      go_wp2_with fail
      refine (K1.out _).mono ?_
      rintro e v1 ⟨rfl, rfl⟩
      go_wp2_with fail
      go_loopw [5] (fun s wx => ∃ m K : Nat, Hid (K = m * 128) ∧ m ≤ 2 ∧ s = .int .i64 (K : Int) ∧ (∃ c, Blk wx bt c ∧ Nums c .u32 256 (wayG 64 m)) ∧ Blk wx w.heap.size (Array.replicate 256 (.int .u32 0)) ∧ Below w.heap.size w wx) (fun s _ => 256 - (intOf s).toNat)
      case atStart => exact ⟨0, 0, hid rfl, by omega, rfl, C1.out, A1.out, H1.out⟩
      case round =>
        clear C1 A1 H1
        obtain ⟨m, K, hK, hm, rfl, ⟨c, TC, NC⟩, A2, H2⟩ := hrel
        replace A2 := hid A2
        replace H2 := hid H2
        by_cases hlt : m < 2
        · have hk0 : K + 64 < 256 := by have := hK.out; omega
          obtain ⟨l1, k1, f1⟩ := TC
          have TC := hid (Blk.mk l1 k1 f1)
          have z := (k1 K).trans (NC.get K (by omega))
          have zt : wayG 64 m K = (tabN K : Int) := if_pos (.inl (by have := hK.out; omega))
          rw [zt] at z
          have z2 := (k1 (K + 64)).trans (NC.get (K + 64) (by omega))
          have tl := tab_lt (n := K) (by omega)
          have e1 : bits .xor .u32 (tabN K : Int) 1994146192 = (tabN (K + 64) : Int) := by
            rw [hK.out, tab_step1 m hlt]
            exact u32_xor_nat _ 1994146192 (by have := tl; rw [hK.out] at this; omega) (by decide)
          have hs : 64 ≤ 128 := by decide
          have ws := hid (way_step1 m)
          rw [← hK.out] at ws
          replace NC := hid NC
          generalize wayG 64 m (K + 64) = old at *
          generalize tabN (K + 64) = new at *
          generalize tabN K = old0 at *
          clear k1 zt tl hs
          go_wp2_with fail
          go_roundw
          case rel => exact ⟨m + 1, K + 128, hid (by rw [hK.out]; omega), by omega, by go_num, ⟨_, TC.out.set (K + 64) _ (by rw [NC.out.size]; exact hk0), NC.out.set hk0 fun j _ => ws.out j⟩, A2.out.other _ (by simp; omega) _, Below.setCell (p := ⟨bt, _, none⟩) H2.out (by simp; omega) _⟩
          case measure => simp [intOf]; omega
        · obtain rfl : m = 2 := by omega
          have hk0 : 256 ≤ K := by have := hK.out; omega
          have C2 : Hid (∃ c, Blk wr bt c ∧ Nums c .u32 256 (wayG 32 0)) := hid ⟨c, TC, NC.congr fun j hj => by
            unfold wayG
            by_cases h : j % 64 = 0
            · rw [if_pos (.inl (by omega)), if_pos (.inr (by omega))]
            · rw [if_neg (by omega), if_neg (by omega)]⟩
          clear TC NC hm
          go_wp2_with fail
          rw [rounds_succ]
          go_wp2_with fail
          refine (K2.out _).mono ?_
          rintro e v2 ⟨rfl, rfl⟩
          go_wp2_with fail
          go_loopw [5] (fun s wx => ∃ m K : Nat, Hid (K = m * 64) ∧ m ≤ 4 ∧ s = .int .i64 (K : Int) ∧ (∃ c, Blk wx bt c ∧ Nums c .u32 256 (wayG 32 m)) ∧ Blk wx w.heap.size (Array.replicate 256 (.int .u32 0)) ∧ Below w.heap.size w wx) (fun s _ => 256 - (intOf s).toNat)
          case atStart => exact ⟨0, 0, hid rfl, by omega, rfl, C2.out, A2.out, H2.out⟩
          case round =>
            clear C2 A2 H2
            obtain ⟨m, K, hK, hm, rfl, ⟨c, TC, NC⟩, A3, H3⟩ := hrel
            replace A3 := hid A3
            replace H3 := hid H3
            by_cases hlt : m < 4
            · have hk0 : K + 32 < 256 := by have := hK.out; omega
              obtain ⟨l1, k1, f1⟩ := TC
              have TC := hid (Blk.mk l1 k1 f1)
              have z := (k1 K).trans (NC.get K (by omega))
              have zt : wayG 32 m K = (tabN K : Int) := if_pos (.inl (by have := hK.out; omega))
              rw [zt] at z
              have z2 := (k1 (K + 32)).trans (NC.get (K + 32) (by omega))
              have tl := tab_lt (n := K) (by omega)
              have e1 : bits .xor .u32 (tabN K : Int) 997073096 = (tabN (K + 32) : Int) := by
                rw [hK.out, tab_step2 m hlt]
                exact u32_xor_nat _ 997073096 (by have := tl; rw [hK.out] at this; omega) (by decide)
              have hs : 32 ≤ 128 := by decide
              have ws := hid (way_step2 m)
              rw [← hK.out] at ws
              replace NC := hid NC
              generalize wayG 32 m (K + 32) = old at *
              generalize tabN (K + 32) = new at *
              generalize tabN K = old0 at *
              clear k1 zt tl hs
              go_wp2_with fail
              go_roundw
              case rel => exact ⟨m + 1, K + 64, hid (by rw [hK.out]; omega), by omega, by go_num, ⟨_, TC.out.set (K + 32) _ (by rw [NC.out.size]; exact hk0), NC.out.set hk0 fun j _ => ws.out j⟩, A3.out.other _ (by simp; omega) _, Below.setCell (p := ⟨bt, _, none⟩) H3.out (by simp; omega) _⟩
              case measure => simp [intOf]; omega
            · obtain rfl : m = 4 := by omega
              have hk0 : 256 ≤ K := by have := hK.out; omega
              have C3 : Hid (∃ c, Blk wr bt c ∧ Nums c .u32 256 (wayG 16 0)) := hid ⟨c, TC, NC.congr fun j hj => by
                unfold wayG
                by_cases h : j % 32 = 0
                · rw [if_pos (.inl (by omega)), if_pos (.inr (by omega))]
                · rw [if_neg (by omega), if_neg (by omega)]⟩
              clear TC NC hm
              go_wp2_with fail
              rw [rounds_succ]
              go_wp2_with fail
              refine (K3.out _).mono ?_
              rintro e v3 ⟨rfl, rfl⟩
              go_wp2_with fail
              go_loopw [5] (fun s wx => ∃ m K : Nat, Hid (K = m * 32) ∧ m ≤ 8 ∧ s = .int .i64 (K : Int) ∧ (∃ c, Blk wx bt c ∧ Nums c .u32 256 (wayG 16 m)) ∧ Blk wx w.heap.size (Array.replicate 256 (.int .u32 0)) ∧ Below w.heap.size w wx) (fun s _ => 256 - (intOf s).toNat)
              case atStart => exact ⟨0, 0, hid rfl, by omega, rfl, C3.out, A3.out, H3.out⟩
              case round =>
                clear C3 A3 H3
                obtain ⟨m, K, hK, hm, rfl, ⟨c, TC, NC⟩, A4, H4⟩ := hrel
                replace A4 := hid A4
                replace H4 := hid H4
                by_cases hlt : m < 8
                · have hk0 : K + 16 < 256 := by have := hK.out; omega
                  obtain ⟨l1, k1, f1⟩ := TC
                  have TC := hid (Blk.mk l1 k1 f1)
                  have z := (k1 K).trans (NC.get K (by omega))
                  have zt : wayG 16 m K = (tabN K : Int) := if_pos (.inl (by have := hK.out; omega))
                  rw [zt] at z
                  have z2 := (k1 (K + 16)).trans (NC.get (K + 16) (by omega))
                  have tl := tab_lt (n := K) (by omega)
                  have e1 : bits .xor .u32 (tabN K : Int) 498536548 = (tabN (K + 16) : Int) := by
                    rw [hK.out, tab_step3 m hlt]
                    exact u32_xor_nat _ 498536548 (by have := tl; rw [hK.out] at this; omega) (by decide)
                  have hs : 16 ≤ 128 := by decide
                  have ws := hid (way_step3 m)
                  rw [← hK.out] at ws
                  replace NC := hid NC
                  generalize wayG 16 m (K + 16) = old at *
                  generalize tabN (K + 16) = new at *
                  generalize tabN K = old0 at *
                  clear k1 zt tl hs
                  go_wp2_with fail
                  go_roundw
                  case rel => exact ⟨m + 1, K + 32, hid (by rw [hK.out]; omega), by omega, by go_num, ⟨_, TC.out.set (K + 16) _ (by rw [NC.out.size]; exact hk0), NC.out.set hk0 fun j _ => ws.out j⟩, A4.out.other _ (by simp; omega) _, Below.setCell (p := ⟨bt, _, none⟩) H4.out (by simp; omega) _⟩
                  case measure => simp [intOf]; omega
                · obtain rfl : m = 8 := by omega
                  have hk0 : 256 ≤ K := by have := hK.out; omega
                  have C4 : Hid (∃ c, Blk wr bt c ∧ Nums c .u32 256 (wayG 8 0)) := hid ⟨c, TC, NC.congr fun j hj => by
                    unfold wayG
                    by_cases h : j % 16 = 0
                    · rw [if_pos (.inl (by omega)), if_pos (.inr (by omega))]
                    · rw [if_neg (by omega), if_neg (by omega)]⟩
                  clear TC NC hm
                  go_wp2_with fail
                  rw [rounds_succ]
                  go_wp2_with fail
                  refine (K4.out _).mono ?_
                  rintro e v4 ⟨rfl, rfl⟩
                  go_wp2_with fail
                  go_loopw [5] (fun s wx => ∃ m K : Nat, Hid (K = m * 16) ∧ m ≤ 16 ∧ s = .int .i64 (K : Int) ∧ (∃ c, Blk wx bt c ∧ Nums c .u32 256 (wayG 8 m)) ∧ Blk wx w.heap.size (Array.replicate 256 (.int .u32 0)) ∧ Below w.heap.size w wx) (fun s _ => 256 - (intOf s).toNat)
                  case atStart => exact ⟨0, 0, hid rfl, by omega, rfl, C4.out, A4.out, H4.out⟩
                  case round =>
                    clear C4 A4 H4
                    obtain ⟨m, K, hK, hm, rfl, ⟨c, TC, NC⟩, A5, H5⟩ := hrel
                    replace A5 := hid A5
                    replace H5 := hid H5
                    by_cases hlt : m < 16
                    · have hk0 : K + 8 < 256 := by have := hK.out; omega
                      obtain ⟨l1, k1, f1⟩ := TC
                      have TC := hid (Blk.mk l1 k1 f1)
                      have z := (k1 K).trans (NC.get K (by omega))
                      have zt : wayG 8 m K = (tabN K : Int) := if_pos (.inl (by have := hK.out; omega))
                      rw [zt] at z
                      have z2 := (k1 (K + 8)).trans (NC.get (K + 8) (by omega))
                      have tl := tab_lt (n := K) (by omega)
                      have e1 : bits .xor .u32 (tabN K : Int) 249268274 = (tabN (K + 8) : Int) := by
                        rw [hK.out, tab_step4 m hlt]
                        exact u32_xor_nat _ 249268274 (by have := tl; rw [hK.out] at this; omega) (by decide)
                      have hs : 8 ≤ 128 := by decide
                      have ws := hid (way_step4 m)
                      rw [← hK.out] at ws
                      replace NC := hid NC
                      generalize wayG 8 m (K + 8) = old at *
                      generalize tabN (K + 8) = new at *
                      generalize tabN K = old0 at *
                      clear k1 zt tl hs
                      go_wp2_with fail
                      go_roundw
                      case rel => exact ⟨m + 1, K + 16, hid (by rw [hK.out]; omega), by omega, by go_num, ⟨_, TC.out.set (K + 8) _ (by rw [NC.out.size]; exact hk0), NC.out.set hk0 fun j _ => ws.out j⟩, A5.out.other _ (by simp; omega) _, Below.setCell (p := ⟨bt, _, none⟩) H5.out (by simp; omega) _⟩
                      case measure => simp [intOf]; omega
                    · obtain rfl : m = 16 := by omega
                      have hk0 : 256 ≤ K := by have := hK.out; omega
                      have C5 : Hid (∃ c, Blk wr bt c ∧ Nums c .u32 256 (wayG 4 0)) := hid ⟨c, TC, NC.congr fun j hj => by
                        unfold wayG
                        by_cases h : j % 8 = 0
                        · rw [if_pos (.inl (by omega)), if_pos (.inr (by omega))]
                        · rw [if_neg (by omega), if_neg (by omega)]⟩
                      clear TC NC hm
                      go_wp2_with fail
                      rw [rounds_succ]
                      go_wp2_with fail
                      refine (K5.out _).mono ?_
                      rintro e v5 ⟨rfl, rfl⟩
                      go_wp2_with fail
                      go_loopw [5] (fun s wx => ∃ m K : Nat, Hid (K = m * 8) ∧ m ≤ 32 ∧ s = .int .i64 (K : Int) ∧ (∃ c, Blk wx bt c ∧ Nums c .u32 256 (wayG 4 m)) ∧ Blk wx w.heap.size (Array.replicate 256 (.int .u32 0)) ∧ Below w.heap.size w wx) (fun s _ => 256 - (intOf s).toNat)
                      case atStart => exact ⟨0, 0, hid rfl, by omega, rfl, C5.out, A5.out, H5.out⟩
                      case round =>
                        clear C5 A5 H5
                        obtain ⟨m, K, hK, hm, rfl, ⟨c, TC, NC⟩, A6, H6⟩ := hrel
                        replace A6 := hid A6
                        replace H6 := hid H6
                        by_cases hlt : m < 32
                        · have hk0 : K + 4 < 256 := by have := hK.out; omega
                          obtain ⟨l1, k1, f1⟩ := TC
                          have TC := hid (Blk.mk l1 k1 f1)
                          have z := (k1 K).trans (NC.get K (by omega))
                          have zt : wayG 4 m K = (tabN K : Int) := if_pos (.inl (by have := hK.out; omega))
                          rw [zt] at z
                          have z2 := (k1 (K + 4)).trans (NC.get (K + 4) (by omega))
                          have tl := tab_lt (n := K) (by omega)
                          have e1 : bits .xor .u32 (tabN K : Int) 124634137 = (tabN (K + 4) : Int) := by
                            rw [hK.out, tab_step5 m hlt]
                            exact u32_xor_nat _ 124634137 (by have := tl; rw [hK.out] at this; omega) (by decide)
                          have hs : 4 ≤ 128 := by decide
                          have ws := hid (way_step5 m)
                          rw [← hK.out] at ws
                          replace NC := hid NC
                          generalize wayG 4 m (K + 4) = old at *
                          generalize tabN (K + 4) = new at *
                          generalize tabN K = old0 at *
                          clear k1 zt tl hs
                          go_wp2_with fail
                          go_roundw
                          case rel => exact ⟨m + 1, K + 8, hid (by rw [hK.out]; omega), by omega, by go_num, ⟨_, TC.out.set (K + 4) _ (by rw [NC.out.size]; exact hk0), NC.out.set hk0 fun j _ => ws.out j⟩, A6.out.other _ (by simp; omega) _, Below.setCell (p := ⟨bt, _, none⟩) H6.out (by simp; omega) _⟩
                          case measure => simp [intOf]; omega
                        · obtain rfl : m = 32 := by omega
                          have hk0 : 256 ≤ K := by have := hK.out; omega
                          have C6 : Hid (∃ c, Blk wr bt c ∧ Nums c .u32 256 (wayG 2 0)) := hid ⟨c, TC, NC.congr fun j hj => by
                            unfold wayG
                            by_cases h : j % 4 = 0
                            · rw [if_pos (.inl (by omega)), if_pos (.inr (by omega))]
                            · rw [if_neg (by omega), if_neg (by omega)]⟩
                          clear TC NC hm
                          go_wp2_with fail
                          rw [rounds_succ]
                          go_wp2_with fail
                          refine (K6.out _).mono ?_
                          rintro e v6 ⟨rfl, rfl⟩
                          go_wp2_with fail
                          go_loopw [5] (fun s wx => ∃ m K : Nat, Hid (K = m * 4) ∧ m ≤ 64 ∧ s = .int .i64 (K : Int) ∧ (∃ c, Blk wx bt c ∧ Nums c .u32 256 (wayG 2 m)) ∧ Blk wx w.heap.size (Array.replicate 256 (.int .u32 0)) ∧ Below w.heap.size w wx) (fun s _ => 256 - (intOf s).toNat)
                          case atStart => exact ⟨0, 0, hid rfl, by omega, rfl, C6.out, A6.out, H6.out⟩
                          case round =>
                            clear C6 A6 H6
                            obtain ⟨m, K, hK, hm, rfl, ⟨c, TC, NC⟩, A7, H7⟩ := hrel
                            replace A7 := hid A7
                            replace H7 := hid H7
                            by_cases hlt : m < 64
                            · have hk0 : K + 2 < 256 := by have := hK.out; omega
                              obtain ⟨l1, k1, f1⟩ := TC
                              have TC := hid (Blk.mk l1 k1 f1)
                              have z := (k1 K).trans (NC.get K (by omega))
                              have zt : wayG 2 m K = (tabN K : Int) := if_pos (.inl (by have := hK.out; omega))
                              rw [zt] at z
                              have z2 := (k1 (K + 2)).trans (NC.get (K + 2) (by omega))
                              have tl := tab_lt (n := K) (by omega)
                              have e1 : bits .xor .u32 (tabN K : Int) 3993919788 = (tabN (K + 2) : Int) := by
                                rw [hK.out, tab_step6 m hlt]
                                exact u32_xor_nat _ 3993919788 (by have := tl; rw [hK.out] at this; omega) (by decide)
                              have hs : 2 ≤ 128 := by decide
                              have ws := hid (way_step6 m)
                              rw [← hK.out] at ws
                              replace NC := hid NC
                              generalize wayG 2 m (K + 2) = old at *
                              generalize tabN (K + 2) = new at *
                              generalize tabN K = old0 at *
                              clear k1 zt tl hs
                              go_wp2_with fail
                              go_roundw
                              case rel => exact ⟨m + 1, K + 4, hid (by rw [hK.out]; omega), by omega, by go_num, ⟨_, TC.out.set (K + 2) _ (by rw [NC.out.size]; exact hk0), NC.out.set hk0 fun j _ => ws.out j⟩, A7.out.other _ (by simp; omega) _, Below.setCell (p := ⟨bt, _, none⟩) H7.out (by simp; omega) _⟩
                              case measure => simp [intOf]; omega
                            · obtain rfl : m = 64 := by omega
                              have hk0 : 256 ≤ K := by have := hK.out; omega
                              have C7 : Hid (∃ c, Blk wr bt c ∧ Nums c .u32 256 (wayG 1 0)) := hid ⟨c, TC, NC.congr fun j hj => by
                                unfold wayG
                                by_cases h : j % 2 = 0
                                · rw [if_pos (.inl (by omega)), if_pos (.inr (by omega))]
                                · rw [if_neg (by omega), if_neg (by omega)]⟩
                              clear TC NC hm
                              go_wp2_with fail
                              rw [rounds_succ]
                              go_wp2_with fail
                              refine (K7.out _).mono ?_
                              rintro e v7 ⟨rfl, rfl⟩
                              go_wp2_with fail
                              go_loopw [5] (fun s wx => ∃ m K : Nat, Hid (K = m * 2) ∧ m ≤ 128 ∧ s = .int .i64 (K : Int) ∧ (∃ c, Blk wx bt c ∧ Nums c .u32 256 (wayG 1 m)) ∧ Blk wx w.heap.size (Array.replicate 256 (.int .u32 0)) ∧ Below w.heap.size w wx) (fun s _ => 256 - (intOf s).toNat)
                              case atStart => exact ⟨0, 0, hid rfl, by omega, rfl, C7.out, A7.out, H7.out⟩
                              case round =>
                                clear C7 A7 H7
                                obtain ⟨m, K, hK, hm, rfl, ⟨c, TC, NC⟩, A8, H8⟩ := hrel
                                replace A8 := hid A8
                                replace H8 := hid H8
                                by_cases hlt : m < 128
                                · have hk0 : K + 1 < 256 := by have := hK.out; omega
                                  obtain ⟨l1, k1, f1⟩ := TC
                                  have TC := hid (Blk.mk l1 k1 f1)
                                  have z := (k1 K).trans (NC.get K (by omega))
                                  have zt : wayG 1 m K = (tabN K : Int) := if_pos (.inl (by have := hK.out; omega))
                                  rw [zt] at z
                                  have z2 := (k1 (K + 1)).trans (NC.get (K + 1) (by omega))
                                  have tl := tab_lt (n := K) (by omega)
                                  have e1 : bits .xor .u32 (tabN K : Int) 1996959894 = (tabN (K + 1) : Int) := by
                                    rw [hK.out, tab_step7 m hlt]
                                    exact u32_xor_nat _ 1996959894 (by have := tl; rw [hK.out] at this; omega) (by decide)
                                  have hs : 1 ≤ 128 := by decide
                                  have ws := hid (way_step7 m)
                                  rw [← hK.out] at ws
                                  replace NC := hid NC
                                  generalize wayG 1 m (K + 1) = old at *
                                  generalize tabN (K + 1) = new at *
                                  generalize tabN K = old0 at *
                                  clear k1 zt tl hs
                                  go_wp2_with fail
                                  go_roundw
                                  case rel => exact ⟨m + 1, K + 2, hid (by rw [hK.out]; omega), by omega, by go_num, ⟨_, TC.out.set (K + 1) _ (by rw [NC.out.size]; exact hk0), NC.out.set hk0 fun j _ => ws.out j⟩, A8.out.other _ (by simp; omega) _, Below.setCell (p := ⟨bt, _, none⟩) H8.out (by simp; omega) _⟩
                                  case measure => simp [intOf]; omega
                                · obtain rfl : m = 128 := by omega
                                  have hk0 : 256 ≤ K := by have := hK.out; omega
                                  have NT : Nums c .u32 256 (fun j => (tabN j : Int)) := NC.congr fun j hj => (if_pos (.inr (by omega))).symm
                                  have ec := nums_eq NT (tabC_nums tabN)
                                  subst ec
                                  have sz : (tabC tabN).size = 256 := NT.size
                                  have one := NT.one
                                  generalize hc : tabC tabN = c at *
                                  replace hc := hid hc
                                  replace TC := hid TC
                                  clear NC NT hm
                                  go_wp2_with fail
                                  rw [rounds_succ]
                                  go_wp2_with (first
                                    | (refine wpList_load_mid rfl 171 _ rfl bt 0 rfl c.toList _ TC.out.range Try.underlying171 rfl (by rw [tab_size]; simp [sz]) ?_)
                                    | (refine wpList_store_mid rfl 171 _ _ rfl w.heap.size 0 c rfl rfl (A8.out.there (by simp [sz])) (by rw [tab_size, sz]) one ?_))
                                  refine bodyPost_ret (v := .agg c) (results_blk rfl _ _ w.heap.size c _ rfl (A8.out.whole (by simp [sz])) Try.underlying171 rfl (by rw [tab_size, sz])) rfl ⟨by rw [hc.out], ?_⟩
                                  exact below_cells H8.out (Nat.le_refl _) 0 _
end Go.Proofs.Ytpgibngohbohdaa
