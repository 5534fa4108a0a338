/-
  Layer 2: with any table a sum goes octet by octet. The walk of CrcTables.
-/
import Derived.Test.YtohdhbamdeenlaaCrcOf
namespace Go.Proofs.Ytohdhbamdeenlaa
open Go.RowKit
set_option linter.unusedVariables false
set_option linter.unusedSimpArgs false
set_option maxRecDepth 100000

/-- The law's own numbers, one out of the other. -/
def seedN (s : Nat) : Nat → Nat
  | 0 => s
  | k + 1 => (seedN s k * 1664525 + 1013904223) % 2 ^ 32
theorem seed_lt {s : Nat} (hs : s < 2 ^ 32) : ∀ k, seedN s k < 2 ^ 32
  | 0 => hs
  | k + 1 => Nat.mod_lt _ (by decide)
def partT (f : Nat → Nat) (k j : Nat) : Int := if j < k then (f (j + 1) : Int) else 0
theorem part_step (f : Nat → Nat) (k j : Nat) : partT f (k + 1) j = if j = k then (f (k + 1) : Int) else partT f k j := by
  unfold partT
  by_cases e : j = k
  · subst e; rw [if_pos (by omega), if_pos rfl]
  · rw [if_neg e]
    by_cases h : j < k
    · rw [if_pos h, if_pos (by omega)]
    · rw [if_neg h, if_neg (by omega)]

set_option maxHeartbeats 8000000 in
theorem crcTables (s n cap : Nat) (p : Option Addr) (g : Nat → Nat) (hs : s < 2 ^ 32) (hg : ∀ i, i < n → g i < 256) (h1 : n ≤ cap) (h2 : cap ≤ maxLen) (w : World) (HR : RowP w p 1 n (fun i => [.int .u8 (g i : Int)])) :
    Calls Try.prog 7 #[.int .u32 (s : Int), .slice p n cap] w fun e w' => e = .returned (.bool true) ∧ Below w.heap.size w w' := by
  have SL := fun k => seed_lt hs k
  have SM : ∀ k, ∃ q1 : Nat, q1 < 2 ^ 32 ∧ ((seedN s k : Int) * 1664525) % 4294967296 = (q1 : Int) ∧ ((q1 : Int) + 1013904223) % 4294967296 = (seedN s (k + 1) : Int) := by
    intro k
    refine ⟨seedN s k * 1664525 % 2 ^ 32, Nat.mod_lt _ (by decide), ?_, ?_⟩
    · omega
    · show _ = (((seedN s k * 1664525 + 1013904223) % 2 ^ 32 : Nat) : Int)
      omega
  have S0 : seedN s 0 = s := rfl
  generalize seedN s = f at *
  have hT : ∀ j, j < 256 → (fun j => f (j + 1)) j < 2 ^ 32 := fun j _ => SL _
  have KS := hid (fun w HR => sum_any (fun j => f (j + 1)) g n cap p hT hg h1 h2 w HR)
  have AL := hid (fun k (hk : k ≤ n) => along_lt hT (show 4294967295 < 2 ^ 32 by decide) k fun i hi => hg i (by omega))
  have ST := hid (fun k (hk : k < n) => along_step (s := 4294967295) hT (AL.out k (by omega)) (hg k hk))
  replace SL := hid SL
  replace SM := hid SM
  replace S0 := hid S0
  unfold maxLen at h2
  replace HR := hid HR
  have hs1 : 0 ≤ (s : Int) ∧ (s : Int) ≤ 4294967295 := by omega
  clear hT hs hg
  go_enter Try.func7, Try.ntmps7
  go_wp2_with fail
  refine (alive2 _).mono ?_
  rintro e w1 ⟨rfl, hb1⟩
  have R1 := hid (HR.out.more hb1)
  clear HR
  go_wp2_with (refine Go.Great.wpList_runTo rfl (some 5) rfl _ _ (alloc_tab _ _ _ _ _ _) ?_)
  have hb2 := Below.alloc hb1 hb1.size (.cells (Array.replicate 256 (.int .u32 0)) 55)
  have hb3 : Below w1.heap.size w1 (w1.alloc (.cells (Array.replicate 256 (.int .u32 0)) 55)) := Below.alloc (Below.refl _ _) (Nat.le_refl _) _
  have T0 : Hid (∃ c, Blk (w1.alloc (.cells (Array.replicate 256 (.int .u32 0)) 55)) w1.heap.size c ∧ Nums c .u32 256 (partT f 0)) := hid ⟨_, Blk.new _ _ _, (nums_rep .u32 256).congr fun j hj => if_neg (by omega)⟩
  have R2 := hid (R1.out.more hb3)
  have hsz := hb1.size
  have hrb : Hid (∀ b o, p = some ⟨b, o, none⟩ → n ≠ 0 → b < w1.heap.size) := hid (fun b o e hn => by
    obtain ⟨b', o', e', R⟩ := R1.out.row hn
    rw [e] at e'; cases e'
    exact R.lt)
  replace hb2 := hid hb2
  generalize w1.alloc (.cells (Array.replicate 256 (.int .u32 0)) 55) = w2 at *
  generalize w1.heap.size = bt at *
  clear hb1 hb3 R1
  go_loopw [0, 6] (fun s0 i wx => ∃ k : Nat, k ≤ 256 ∧ i = .int .i64 (k : Int) ∧ s0 = .int .u32 (f k : Int) ∧ (∃ c, Blk wx bt c ∧ Nums c .u32 256 (partT f k)) ∧ RowP wx p 1 n (fun i => [.int .u8 (g i : Int)]) ∧ Below w.heap.size w wx) (fun _ i _ => 256 - (intOf i).toNat)
  case atStart => exact ⟨0, by omega, rfl, by rw [S0.out], T0.out, R2.out, hb2.out⟩
  case round =>
    clear T0 R2 hb2
    obtain ⟨k, hk, rfl, rfl, ⟨c, TC, NC⟩, R3, H3⟩ := hrel
    by_cases hlt : k < 256
    · obtain ⟨q1, hq1, m1, m2⟩ := SM.out k
      have c2 : 0 ≤ (q1 : Int) ∧ (q1 : Int) ≤ 4294967295 := by omega
      have l0 := SL.out k
      have l1 := SL.out (k + 1)
      have ps := hid (part_step f k)
      have TC' := hid TC
      obtain ⟨l5, k5, f5⟩ := TC
      have z := (k5 k).trans (NC.get k hlt)
      replace NC := hid NC
      replace R3 := hid R3
      replace H3 := hid H3
      generalize partT f k k = old at *
      generalize f k = a at *
      generalize hb' : f (k + 1) = b' at *
      replace hb' := hid hb'
      have c1 : 0 ≤ (a : Int) ∧ (a : Int) ≤ 4294967295 := by omega
      clear k5 l0 l1 hq1
      go_wp2_with fail
      go_roundw
      case rel =>
        refine ⟨k + 1, by omega, by go_num, by rw [hb'.out]; exact congrArg _ m2, ⟨_, TC'.out.set k _ (by rw [NC.out.size]; exact hlt), NC.out.set hlt fun j _ => ps.out j⟩, ?_, Below.setCell (p := ⟨bt, _, none⟩) H3.out (by simp; omega) _⟩
        rcases R3.out with h | ⟨b, o, e, r⟩
        · exact .inl h
        · by_cases hn : n = 0
          · exact .inl hn
          · have := hrb.out b o e hn
            exact .inr ⟨b, o, e, r.below (Below.setCell (p := ⟨bt, _, none⟩) (Below.refl bt _) (Nat.le_refl _) _) this⟩
      case measure => simp [intOf]; omega
    · obtain rfl : k = 256 := by omega
      have NT : Nums c .u32 256 (fun j => (f (j + 1) : Int)) := NC.congr fun j hj => (if_pos hj).symm
      have ec := nums_eq NT (tabC_nums (fun j => f (j + 1)))
      have sz := NT.size
      replace ec := hid ec
      have HT := hid (fun j hj => (TC.cell j).trans (NT.get j hj))
      replace TC := hid TC
      replace R3 := hid R3
      replace H3 := hid H3
      have one := hid NT.one
      clear NC NT
      go_wp2_with fail
      go_loop [7, 8] (fun sm i => ∃ k : Nat, k ≤ n ∧ i = .int .i64 (k : Int) ∧ sm = .int .u32 (alongN (fun j => f (j + 1)) g 4294967295 k : Int)) (fun _ i => n - (intOf i).toNat)
      case atStart => exact ⟨0, by omega, rfl, rfl⟩
      case round =>
        obtain ⟨k, hk, rfl, rfl⟩ := hrel
        by_cases hlt2 : k < n
        · obtain ⟨b, o, rfl, R⟩ := R3.out.row (by omega)
          have z := R.at0 hlt2 (v := .int .u8 (g k : Int)) rfl
          rw [Nat.mul_one] at z
          obtain ⟨x, hx, e1, e2⟩ := ST.out k hlt2
          have y := HT.out x hx
          have ha := AL.out k hk
          generalize hr' : alongN (fun j => f (j + 1)) g 4294967295 (k + 1) = r' at *
          replace hr' := hid hr'
          generalize alongN (fun j => f (j + 1)) g 4294967295 k = r at *
          have c1 : 0 ≤ (r : Int) ∧ (r : Int) ≤ 4294967295 := by omega
          clear R ha
          go_wp2_with fail
          go_round
          case rel => exact ⟨k + 1, by omega, by go_num, by rw [hr'.out]⟩
          case measure => simp [intOf]; omega
        · obtain rfl : k = n := by omega
          have ha := AL.out k (Nat.le_refl _)
          have K := fun w HR => KS.out w HR
          rw [← ec.out] at K
          replace K := hid K
          generalize alongN (fun j => f (j + 1)) g 4294967295 k = r at *
          have c1 : 0 ≤ (r : Int) ∧ (r : Int) ≤ 4294967295 := by omega
          clear ha
          go_wp2_with (refine wpList_load_mid rfl 55 _ rfl bt 0 rfl c.toList _ TC.out.range Try.underlying55 rfl (by rw [tab_size]; simp [sz]) ?_)
          refine (K.out _ R3.out).mono ?_
          rintro e w5 ⟨rfl, hb5⟩
          have H5 := hid (below2 H3.out hb5 H3.out.size)
          clear hb5
          go_wp2
          go_ret
          exact ⟨by simp, H5.out⟩
end Go.Proofs.Ytohdhbamdeenlaa
