/-
  Package crc: the sum of all, one behind the other; the page's example.
-/
import Derived.Test.YtpgibngohbohdaaCrcTable
import Derived.Lib.SlBytesConst
namespace Go.Proofs.Ytpgibngohbohdaa
open Go.RowKit
set_option linter.unusedVariables false
set_option linter.unusedSimpArgs false
set_option maxRecDepth 100000

/-- The sum of all of m rows. -/
def allN (ns : Nat → Nat) (G : Nat → Nat → Nat) : Nat → Nat
  | 0 => 4294967295
  | i + 1 => alongN tabN (G i) (allN ns G i) (ns i)
theorem all_lt {ns : Nat → Nat} {G : Nat → Nat → Nat} : ∀ m, (∀ i, i < m → ∀ j, j < ns i → G i j < 256) → allN ns G m < 2 ^ 32
  | 0, _ => show 4294967295 < 2 ^ 32 by decide
  | m + 1, h => along_lt (fun j hj => tab_lt (by omega)) (all_lt m fun i hi => h i (by omega)) (ns m) (h m (by omega))

set_option maxHeartbeats 4000000 in
theorem of_any (pl : Option Addr) (m cap : Nat) (ps : Nat → Option Addr) (ns cs : Nat → Nat) (G : Nat → Nat → Nat) (h1 : m ≤ cap) (h2 : cap ≤ maxLen) (hg : ∀ i, i < m → ∀ j, j < ns i → G i j < 256) (hn : ∀ i, i < m → ns i ≤ cs i ∧ cs i ≤ maxLen)
    (w : World) (HL : RowP w pl 1 m (fun i => [.slice (ps i) (ns i) (cs i)])) (HR : ∀ i, i < m → RowP w (ps i) 1 (ns i) (fun j => [.int .u8 (G i j : Int)])) :
    Calls Try.prog 83 #[.slice pl m cap] w fun e w' => e = .returned (.int .u32 (4294967295 - (allN ns G m : Int))) ∧ Below w.heap.size w w' := by
  have AL := hid (fun i (hi : i ≤ m) => all_lt (ns := ns) (G := G) i fun k hk => hg k (by omega))
  have KA := hid (fun i (hi : i < m) bt w HT HR => along_any bt tabN (G i) (allN ns G i) (ns i) (cs i) (ps i) (fun j hj => tab_lt (by omega)) (AL.out i (by omega)) (hg i hi) (hn i hi).1 (hn i hi).2 w HT HR)
  unfold maxLen at h2
  replace HL := hid HL
  replace HR := hid HR
  have sg : IntKind.u32.signed = false := rfl
  clear hg hn
  go_enter Try.func83, Try.ntmps83
  go_wp2_with fail
  refine (table_any _).mono ?_
  rintro e w1 ⟨rfl, hb1⟩
  have NT := hid (tabC_nums tabN)
  generalize tabC tabN = c at *
  have sz : c.size = 256 := NT.out.size
  have hbA := Below.alloc hb1 hb1.size (.cells (Array.replicate 256 (.int .u32 0)) 171)
  have TA := Blk.new w1 (Array.replicate 256 (.int .u32 0)) 171
  have hb2 := below_cells hbA hb1.size 0 c.toList
  have TB := TA.whole (d := c) (by simp [sz])
  have HB := hid hb2
  have TC := hid (fun j hj => (TB.cell j).trans (NT.out.get j hj))
  replace HL := hid (HL.out.more hb2)
  replace HR := hid (fun i hi => (HR.out i hi).more hb2)
  replace TA := hid TA
  have one := NT.out.one
  clear hb2 hbA TB
  go_wp2_with (first
    | (refine Go.Great.wpList_runTo rfl (some 3) rfl _ _ (alloc_tab _ _ _ _ _ _) ?_)
    | (refine wpList_store_mid rfl 171 _ _ rfl w1.heap.size 0 c rfl rfl (TA.out.there (by simp [sz])) (by rw [tab_size, sz]) one ?_))
  generalize (w1.alloc _).setCells _ _ _ = w2 at *
  generalize w1.heap.size = bt at *
  clear hb1 TA sz one NT
  go_loop [4, 10] (fun sm i => ∃ k : Nat, k ≤ m ∧ i = .int .i64 (k : Int) ∧ sm = .int .u32 (allN ns G k : Int)) (fun _ i => m - (intOf i).toNat)
  case atStart => exact ⟨0, by omega, rfl, rfl⟩
  case round =>
    obtain ⟨k, hk, rfl, rfl⟩ := hrel
    by_cases hlt : k < m
    · obtain ⟨b, o, rfl, R⟩ := HL.out.row (by omega)
      have z := R.at0 hlt (v := .slice (ps k) (ns k) (cs k)) rfl
      rw [Nat.mul_one] at z
      have e : allN ns G (k + 1) = alongN tabN (G k) (allN ns G k) (ns k) := rfl
      have K := hid (KA.out k hlt)
      rw [← e] at K
      replace e := hid e
      clear R
      go_wp2_with fail
      refine (K.out _ _ TC.out (HR.out k hlt)).mono ?_
      rintro e w1 ⟨rfl, rfl⟩
      go_wp2_with fail
      go_round
      case rel => exact ⟨k + 1, by omega, by go_num, rfl⟩
      case measure => simp [intOf]; omega
    · obtain rfl : k = m := by omega
      have ha := AL.out k (Nat.le_refl _)
      have nm := not_max ha
      generalize hr : allN ns G k = r at *
      replace hr := hid hr
      have c1 : 0 ≤ (r : Int) ∧ (r : Int) ≤ 4294967295 := by omega
      clear ha
      go_wp2
      go_ret
      exact ⟨by rw [hr.out]; rfl, HB.out⟩

theorem cell_new (w : World) (C : Array Value) (e : TypeId) (fr : Nat × Nat) (j : Nat) : (w.alloc (.cells C e fr)).cell? ⟨w.heap.size, j, none⟩ = C[j]? :=
  cell_of_row _ _ _ C e fr (heap_alloc_new w _)

end Go.Proofs.Ytpgibngohbohdaa
