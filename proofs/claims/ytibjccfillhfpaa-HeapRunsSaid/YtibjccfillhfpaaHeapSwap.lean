/-
  package heap: swap, Len.
-/
import Derived.Test.YtibjccfillhfpaaHeapRow
namespace Go.Proofs.Ytibjccfillhfpaa
open Go.RowKit
set_option linter.unusedVariables false
set_option linter.unusedSimpArgs false

theorem ItsOwn.drew {w : World} {B : Nat} {v : Value} {L : List It} (h : ItsOwn w B v L) : ItsOwn w.drew B v L := h

set_option maxRecDepth 100000 in
set_option maxHeartbeats 4000000 in
theorem swap_any (h B g cap n i k : Nat) (L : List It) (hn : L.length = n) (hi : i < n) (hk : k < n) (hik : i ≠ k) (w : World) (H : HeapS w h B (.slice (some ⟨g, 0, none⟩) n cap) L) :
    Calls Try.prog 34 #[.pointer (some ⟨h, 0, none⟩), .int .i64 (i : Int), .int .i64 (k : Int)] w fun e w' => e = .returned (.tuple #[]) ∧ HeapS w' h B (.slice (some ⟨g, 0, none⟩) n cap) (swp L i k) ∧ Sole (fun j => j = g) w w' := by
  obtain ⟨g', cap', e', hb, hgl, hc1, hc2, R, fz⟩ := H.own.blk (by omega)
  rw [hn] at e' hc1 R
  cases e'
  have hgh := H.ne g rfl
  have HH := hid H
  obtain ⟨l0, k0, f0⟩ := H.box
  have z0 := R.at0 (i := i) (by omega) (v := .int .u64 (itAt L i).h) rfl
  have z1 := R.at1 (i := i) (by omega) (v := .int .u64 (itAt L i).l) rfl
  have z2 := R.at2 (i := i) (by omega) (v := .int .i64 (itAt L i).o) rfl
  have z3 := R.at3 (i := i) (by omega) (v := .int .i64 (itAt L i).i) rfl
  have y0 := R.at0 (i := k) (by omega) (v := .int .u64 (itAt L k).h) rfl
  have y1 := R.at1 (i := k) (by omega) (v := .int .u64 (itAt L k).l) rfl
  have y2 := R.at2 (i := k) (by omega) (v := .int .i64 (itAt L k).o) rfl
  have y3 := R.at3 (i := k) (by omega) (v := .int .i64 (itAt L k).i) rfl
  simp only [Nat.zero_add] at z0 z1 z2 z3 y0 y1 y2 y3
  have p1 := HH.out.own.put hn i (by omega) (itAt L k)
  have p2 := p1.put (by rw [List.length_set]; exact hn) k (by rw [List.length_set, hn]; exact hk) (itAt L i)
  have hi0 : (0 : Int) ≤ (i : Int) := by omega
  have hk0 : (0 : Int) ≤ (k : Int) := by omega
  have hi1 : (i : Int) < (n : Int) := by omega
  have hk1 : (k : Int) < (n : Int) := by omega
  have hn63 : (n : Int) ≤ 9223372036854775807 := by unfold maxLen at hc2; omega
  have a1 : i * 4 ≠ k * 4 := by omega
  have hB := hid ((((((((HH.out.box.other ⟨g, i * 4, none⟩ hgh (.int .u64 (itAt L k).h)).other ⟨g, i * 4 + 1, none⟩ hgh (.int .u64 (itAt L k).l)).other ⟨g, i * 4 + 2, none⟩ hgh (.int .i64 (itAt L k).o)).other ⟨g, i * 4 + 3, none⟩ hgh (.int .i64 (itAt L k).i)).other ⟨g, k * 4, none⟩ hgh (.int .u64 (itAt L i).h)).other ⟨g, k * 4 + 1, none⟩ hgh (.int .u64 (itAt L i).l)).other ⟨g, k * 4 + 2, none⟩ hgh (.int .i64 (itAt L i).o)).other ⟨g, k * 4 + 3, none⟩ hgh (.int .i64 (itAt L i).i))
  have hS := hid ((((((((Sole.setCell (S := fun j => j = g) w (o := i * 4) (.int .u64 (itAt L k).h) rfl).trans (Sole.setCell _ (o := i * 4 + 1) (.int .u64 (itAt L k).l) rfl)).trans (Sole.setCell _ (o := i * 4 + 2) (.int .i64 (itAt L k).o) rfl)).trans (Sole.setCell _ (o := i * 4 + 3) (.int .i64 (itAt L k).i) rfl)).trans (Sole.setCell _ (o := k * 4) (.int .u64 (itAt L i).h) rfl)).trans (Sole.setCell _ (o := k * 4 + 1) (.int .u64 (itAt L i).l) rfl)).trans (Sole.setCell _ (o := k * 4 + 2) (.int .i64 (itAt L i).o) rfl)).trans (Sole.setCell _ (o := k * 4 + 3) (.int .i64 (itAt L i).i) rfl))
  have hO := hid p2.drew
  have hN := hid HH.out.ne
  clear R p1 p2 H HH
  go_enter Try.func34, Try.ntmps34
  go_wp2_with fail
  go_region
  go_end0
  exact ⟨rfl, ⟨hB.out.drew, hO.out, hN.out⟩, hS.out.drew⟩

theorem hlen_any (h B : Nat) (v : Value) (L : List It) (w : World) (H : HeapS w h B v L) :
    Calls Try.prog 16 #[.pointer (some ⟨h, 0, none⟩)] w fun e w' => e = .returned (.int .i64 L.length) ∧ w' = w := by
  obtain ⟨p, cap, rfl, c1, c2, R⟩ := H.own.open
  obtain ⟨l0, k0, f0⟩ := H.box
  clear R H
  go_enter Try.func16, Try.ntmps16
  go_wp2
  go_ret
  exact ⟨rfl, rfl⟩
theorem hlen_nil (w : World) : Calls Try.prog 16 #[.pointer none] w fun e w' => e = .returned (.int .i64 0) ∧ w' = w := by
  go_enter Try.func16, Try.ntmps16
  go_wp2
  go_ret
  exact ⟨rfl, rfl⟩
end Go.Proofs.Ytibjccfillhfpaa
