/-
  Layer 14: the law's own full sectors.
-/
import Derived.Test.YtpgibngohbohdaaDiskNew
namespace Go.Proofs.Ytpgibngohbohdaa
open Go.RowKit Go.Maps
set_option linter.unusedVariables false
set_option linter.unusedSimpArgs false

def fullV (n : Int) (j : Nat) : Int := (n + ((j / 100 : Nat) : Int)) % 256
def fullL (n : Int) : List UInt8 := (List.range 256).map fun j => UInt8.ofNat (fullV n j).toNat
theorem fullL_len (n : Int) : (fullL n).length = 256 := by unfold fullL; rw [List.length_map, List.length_range]
theorem full_cell (n : Int) (j : Nat) (h : j < (fullL n).length) : ((fullL n)[j].toNat : Int) = fullV n j := by
  have h0 : 0 ≤ fullV n j := Int.emod_nonneg _ (by omega)
  have h1 : fullV n j < 256 := Int.emod_lt_of_pos _ (by omega)
  have : (fullL n)[j] = UInt8.ofNat (fullV n j).toNat := by simp [fullL]
  rw [this]
  have h2 : (UInt8.ofNat (fullV n j).toNat).toNat = (fullV n j).toNat := by
    rw [UInt8.toNat_ofNat']
    omega
  rw [h2]
  omega
set_option maxRecDepth 100000 in
set_option maxHeartbeats 2000000 in
theorem full_any (n : Int) (hn : 0 ≤ n) (hn' : n ≤ 255) (w : World) : Calls Try.prog 35 #[.int .u8 n] w fun e w' => ∃ x : OcS, e = .returned (.slice x.a 256 x.cap) ∧ x.l = fullL n ∧ x.there w' ∧ x.a = some ⟨w.heap.size, 0, none⟩ ∧ Below w.heap.size w w' := by
  have mk : ∀ w, (Instr.makeSlice 35 (.int .i64 256) (.int .i64 256)).run Try.prog w = .ok (.slice (some ⟨w.heap.size, 0, none⟩) 256 256) (w.alloc (.cells (madeCells #[.int .u8 0] 256) 5)) := fun w => run_zeros 256 (by omega) w
  have B0 := hid (Blk.new w (madeCells #[.int .u8 0] 256) 5)
  have hb0 := hid (show Below w.heap.size w (w.alloc (.cells (madeCells #[.int .u8 0] 256) 5)) from (Below.refl _ _).alloc (Nat.le_refl _) _)
  go_enter Try.func35, Try.ntmps35
  go_wp2_with fail
  generalize w.alloc (.cells (madeCells #[.int .u8 0] 256) 5) = w1 at *
  go_loopw [4] (fun i wr => ∃ k : Nat, k ≤ 256 ∧ i = .int .i64 (k : Int) ∧ Below w.heap.size w wr ∧ ∃ c : Array Value, Blk wr w.heap.size c ∧ c.size = 256 ∧ ∀ j, j < k → c[j]? = some (.int .u8 (fullV n j))) (fun i _ => 256 - (intOf i).toNat)
  case atStart => exact ⟨0, by omega, rfl, hb0.out, _, B0.out, size_madeCells _ _, fun j h => absurd h (Nat.not_lt_zero _)⟩
  case round =>
    obtain ⟨k, hk, rfl, hb, c, B, hcs, hc⟩ := hrel
    by_cases hlt : k < 256
    · have hlt' : (k : Int) < 256 := by omega
      have hk0 : (0 : Int) ≤ (k : Int) := by omega
      obtain ⟨v0, x0⟩ : ∃ v0, wr.cell? ⟨w.heap.size, k, none⟩ = some v0 := ⟨c[k]'(by omega), by rw [B.cell]; exact Array.getElem?_eq_getElem (by omega)⟩
      obtain ⟨q, hq⟩ : ∃ q : Nat, k / 100 = q := ⟨_, rfl⟩
      have hqi : Int.tdiv (k : Int) 100 = (q : Int) := by rw [← hq]; rfl
      have hfv : fullV n k = (n + (q : Int)) % 256 := by unfold fullV; rw [hq]
      have y0 := B.frz k
      have E := hid (show Below w.heap.size w (wr.setCell ⟨w.heap.size, k, none⟩ (.int .u8 (fullV n k))) ∧ ∃ c : Array Value, Blk (wr.setCell ⟨w.heap.size, k, none⟩ (.int .u8 (fullV n k))) w.heap.size c ∧ c.size = 256 ∧ ∀ j, j < k + 1 → c[j]? = some (.int .u8 (fullV n j)) from
        ⟨hb.setCell (p := ⟨w.heap.size, k, none⟩) (Nat.le_refl _) _, _, B.set k _ (by omega), by simp [hcs], fun j hj => by
          by_cases e : j = k
          · subst e; rw [Array.getElem?_setIfInBounds_self_of_lt (by omega)]
          · rw [Array.getElem?_setIfInBounds_ne (by omega)]; exact hc j (by omega)⟩)
      have hltn := hid hlt
      clear hb B hcs hc B0 hb0
      have hwq : wrap64 (q : Int) = (q : Int) := IntWalk.wrap64_in _ ⟨by omega, by omega⟩
      clear hq
      rw [hfv] at E
      clear hfv
      replace hn := hid hn
      replace hn' := hid hn'
      go_wp2_with fail
      refine ⟨⟨k + 1, by have := hltn.out; omega, by simp, E.out.1, E.out.2⟩, ?_⟩
      have := hltn.out
      simp [intOf]
      omega
    · obtain rfl : k = 256 := by omega
      have E := hid (show ∃ x : OcS, Ending.returned (.slice (some ⟨w.heap.size, 0, none⟩) 256 256) = .returned (.slice x.a 256 x.cap) ∧ x.l = fullL n ∧ x.there wr ∧ x.a = some ⟨w.heap.size, 0, none⟩ ∧ Below w.heap.size w wr from
        ⟨⟨some ⟨w.heap.size, 0, none⟩, 256, fullL n⟩, rfl, rfl, ⟨.inr ⟨_, _, rfl, B.lt, fun i hi => by
          rw [Nat.zero_add, B.cell, full_cell n i hi]
          rw [fullL_len] at hi
          exact hc i hi⟩, by rw [fullL_len]; exact Nat.le_refl _, by show 256 ≤ maxLen; unfold maxLen; omega⟩, rfl, hb⟩)
      clear hb B hcs hc B0 hb0
      go_wp2_with fail
      go_ret
      exact E.out
end Go.Proofs.Ytpgibngohbohdaa
