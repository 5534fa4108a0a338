/-
  The document's own nodes: a leaf of octets; what is none.
-/
import Derived.Test.YtgnnikjpnmalmaaNodeRefOther
import Derived.Deep.RegionLaw
import Derived.Deep.AppendLies
namespace Go.Proofs.Ytgnnikjpnmalmaa
open Go.RowKit
set_option linter.unusedVariables false
set_option linter.unusedSimpArgs false

theorem news8 (w : World) (c : Array Value) (t : TypeId) : ∀ j u, c.toList[j]? = some u → (w.alloc (.cells c t)).cell? (Addr.add ⟨w.heap.size, 0, none⟩ j) = some u :=
  World.news_of_block (cs := c) (t := t) (fr := (0, 0)) (heap_alloc_new w _)
theorem box_zz (w : World) : ∃ W0, (w.alloc (.cells (lfcells false (.slice none 0 0) 0) 61)).alloc (.cells (lfcells false (.slice none 0 0) 0) 61) = W0 ∧ Below w.heap.size w W0 ∧ Blk W0 w.heap.size (lfcells false (.slice none 0 0) 0) ∧ Blk W0 (w.heap.size + 1) (lfcells false (.slice none 0 0) 0) := by
  refine ⟨_, rfl, ((Below.refl _ _).alloc (Nat.le_refl _) _).alloc (by simp) _, (Blk.new w _ _).alloc _, ?_⟩
  have := Blk.new (w.alloc (.cells (lfcells false (.slice none 0 0) 0) 61)) (lfcells false (.slice none 0 0) 0) 61
  rwa [World.size_alloc] at this

set_option maxRecDepth 100000 in
set_option maxHeartbeats 16000000 in
theorem refReadNone_any (l : List UInt8) (a : Option Addr) (cap : Nat) (h1 : l.length ≤ cap) (h2 : cap ≤ maxLen) (w : World) (O : Octs w a l) (h0 : l.length < 3 ∨ (byteAt l 0 ≠ 1 ∧ (l.length ≠ 13 ∨ byteAt l 0 ≠ 0))) :
    Calls Try.prog 43 #[.slice a l.length cap] w (RefPost l w) := by
  obtain ⟨W0, hW0, hb0, BZ, BN⟩ := box_zz w
  have EB : Hid (∀ w', Below w.heap.size w w' → RefPost l w (.returned (.tuple #[lfval false (.slice none 0 0) 0, .bool false])) w') := hid (fun w' hb => .inr (.inr ⟨leafR_not (by omega), otherR_not (by omega), rfl, hb⟩))
  have D0 := hid hb0
  have HZ := hid BZ
  unfold maxLen at h2
  by_cases h3 : l.length < 3
  · have g3 : ((l.length : Int) == 13) = false := by simp; omega
    have g3' : (l.length == 13) = false := by simp; omega
    have g4 : (l.length : Int) < 3 := by omega
    generalize l.length = ll at *
    clear BN hb0 BZ O h0 h1
    go_enter Try.func43, Try.ntmps43
    have B2 := Blk.full (d := lfcells false (.slice none 0 0) 0) HZ.out rfl
    have hb2 := hid (below_fill (b := w.heap.size) (Nat.le_refl _) (lfcells false (.slice none 0 0) 0).toList 0 D0.out)
    obtain ⟨lz, kz, fz⟩ := HZ.out
    go_wp2_with fail
    show bodyPost _ _ _ _ _ (setAll W0 w.heap.size 0 (lfcells false (.slice none 0 0) 0).toList)
    generalize setAll W0 w.heap.size 0 (lfcells false (.slice none 0 0) 0).toList = w9 at *
    obtain ⟨l7, k7, f7⟩ := B2
    refine bodyPost_ret (v := .tuple #[lfval false (.slice none 0 0) 0, .bool false]) (by simp [results, Try.results43, go_sem, k7]) rfl ?_
    exact EB.out w9 hb2.out
  · obtain ⟨b, o, rfl, hb, hc⟩ := O.row (by intro h; rw [h] at h3; simp at h3)
    have z0 := (hb0.cell (p := ⟨b, o + 0, none⟩) hb).trans (hc 0 (by omega))
    rw [Nat.add_zero, ← byteAt_get l 0 (by omega)] at z0
    obtain ⟨ne1, ne0⟩ : byteAt l 0 ≠ 1 ∧ (l.length ≠ 13 ∨ byteAt l 0 ≠ 0) := by rcases h0 with h | h; exact absurd h h3; exact h
    have g1 : (((byteAt l 0 : Nat) : Int) != 1) = true := by simp; omega
    have hcapI : (l.length : Int) ≤ (cap : Int) := by omega
    have i0 : (0 : Int) < (l.length : Int) := by omega
    have g5 : decide (l.length < 3) = false := decide_eq_false h3
    have g5' : decide ((l.length : Int) < 3) = false := decide_eq_false (by omega)
    clear BN hb0 BZ O h0 hc h1
    by_cases h13 : l.length = 13
    · have g0 : (((byteAt l 0 : Nat) : Int) == 0) = false := by simp; omega
      rw [h13] at hcapI i0 g5 g5' ⊢
      generalize byteAt l 0 = x0 at *
      clear ne1 ne0 h3
      go_enter Try.func43, Try.ntmps43
      have B2 := Blk.full (d := lfcells false (.slice none 0 0) 0) HZ.out rfl
      have hb2 := hid (below_fill (b := w.heap.size) (Nat.le_refl _) (lfcells false (.slice none 0 0) 0).toList 0 D0.out)
      obtain ⟨lz, kz, fz⟩ := HZ.out
      go_wp2_with fail
      show bodyPost _ _ _ _ _ (setAll W0 w.heap.size 0 (lfcells false (.slice none 0 0) 0).toList)
      generalize setAll W0 w.heap.size 0 (lfcells false (.slice none 0 0) 0).toList = w9 at *
      obtain ⟨l7, k7, f7⟩ := B2
      refine bodyPost_ret (v := .tuple #[lfval false (.slice none 0 0) 0, .bool false]) (by simp [results, Try.results43, go_sem, k7]) rfl ?_
      exact EB.out w9 hb2.out
    · have g3 : ((l.length : Int) == 13) = false := by simp; omega
      have g3' : (l.length == 13) = false := by simp; omega
      generalize byteAt l 0 = x0 at *
      generalize l.length = ll at *
      clear ne1 ne0 h3 h13
      go_enter Try.func43, Try.ntmps43
      have B2 := Blk.full (d := lfcells false (.slice none 0 0) 0) HZ.out rfl
      have hb2 := hid (below_fill (b := w.heap.size) (Nat.le_refl _) (lfcells false (.slice none 0 0) 0).toList 0 D0.out)
      obtain ⟨lz, kz, fz⟩ := HZ.out
      go_wp2_with fail
      show bodyPost _ _ _ _ _ (setAll W0 w.heap.size 0 (lfcells false (.slice none 0 0) 0).toList)
      generalize setAll W0 w.heap.size 0 (lfcells false (.slice none 0 0) 0).toList = w9 at *
      obtain ⟨l7, k7, f7⟩ := B2
      refine bodyPost_ret (v := .tuple #[lfval false (.slice none 0 0) 0, .bool false]) (by simp [results, Try.results43, go_sem, k7]) rfl ?_
      exact EB.out w9 hb2.out
end Go.Proofs.Ytgnnikjpnmalmaa
