/-
  Package disk: Waits and Count of a disk; Power where it is off; what settling leaves alone.
-/
import Derived.Test.YtpgibngohbohdaaDiskFlush
import Derived.Test.YtpgibngohbohdaaDiskAlive
import Derived.Test.YtpgibngohbohdaaDiskFull
namespace Go.Proofs.Ytpgibngohbohdaa
open Go.RowKit Go.Maps
set_option linter.unusedVariables false
set_option linter.unusedSimpArgs false

set_option maxRecDepth 100000 in
theorem waits_any (m : DM) (b : Nat) (w : World) (B : Blk w b m.cells) : Calls Try.prog 13 #[.pointer (some ⟨b, 0, none⟩)] w fun e w' => e = .returned (.int .i64 (m.Qs.length : Int)) ∧ w' = w := by
  simp only [DM.cells, DM.sv, DM.wv, DM.fv] at B
  obtain ⟨l0, k0, f0⟩ := B
  go_enter Try.func13, Try.ntmps13
  go_wp2_with fail
  go_ret
  exact ⟨rfl, rfl⟩
set_option maxRecDepth 100000 in
set_option maxHeartbeats 2000000 in
theorem power_off (m : DM) (b : Nat) (K : Nat → Prop) (w : World) (D : DiskM w b m K) (hoff : m.off = true) (fp : Option Addr) (n fc : Nat) :
    Calls Try.prog 32 #[.pointer (some ⟨b, 0, none⟩), .slice fp n fc] w fun e w' => e = .returned (.tuple #[]) ∧ DiskM w' b m.reset K ∧ Sole K w w' := by
  have B2 := D.blk
  have B7 := (((((B2.set 1 (.bool false) (by simp [DM.cells])).set 6 (.bool false) (by simp [DM.cells])).set 7 (.int .i64 0) (by simp [DM.cells])).set 8 (.slice none 0 0) (by simp [DM.cells])).set 9 (.bool false) (by simp [DM.cells])).set 10 (.int .i64 0) (by simp [DM.cells])
  have S7 := (((((Sole.setCell (S := fun k => k = b) w (b := b) (o := 1) (.bool false) rfl).trans (Sole.setCell _ (b := b) (o := 6) (.bool false) rfl)).trans (Sole.setCell _ (b := b) (o := 7) (.int .i64 0) rfl)).trans (Sole.setCell _ (b := b) (o := 8) (.slice none 0 0) rfl)).trans (Sole.setCell _ (b := b) (o := 9) (.bool false) rfl)).trans (Sole.setCell _ (b := b) (o := 10) (.int .i64 0) rfl)
  have E7 := hid (And.intro (D.reset S7 B7) (S7.mono (T := K) fun k _ e => e ▸ D.kk _ (.inl rfl)))
  clear D B7 S7
  simp only [DM.cells, DM.sv, DM.wv, DM.fv, hoff] at B2
  obtain ⟨l2, k2, f2⟩ := B2
  go_enter Try.func32, Try.ntmps32
  go_wp2_with fail
  refine bodyPost_end (results_none rfl _ _ _) rfl ?_
  exact ⟨rfl, E7.out⟩
/-- A sector that none of these writes is for stays. -/
theorem stepD_other (s : SD) (z : Int) (l : List UInt8) (f : Int) (i : Nat) (h : z.toNat ≠ i) : (stepD s z l f).1[i]? = s.1[i]? := by
  unfold stepD
  split
  · exact List.getElem?_set_ne h
  · rfl
theorem settleD_other (Qs : List WtS) (Fs : List Int) {N : Nat} (i : Nat) (hN : N ≤ Qs.length) (h : ∀ y ∈ Qs, y.at_.toNat ≠ i) : ∀ (pre : List (Fin N)) (s : SD), (settleD Qs Fs s pre).1[i]? = s.1[i]?
  | [], s => rfl
  | j :: pre, s => by
    have ih := settleD_other Qs Fs i hN h pre (stepD s (atR wtT Qs j.val).at_ (atR wtT Qs j.val).x.l (atR fatT Fs j.val))
    have hj := j.isLt
    show (settleD Qs Fs (stepD s (atR wtT Qs j.val).at_ (atR wtT Qs j.val).x.l (atR fatT Fs j.val)) pre).1[i]? = _
    rw [ih]
    exact stepD_other s _ _ _ i (h _ (atR_mem (T := wtT) Qs j.val (by omega)))
end Go.Proofs.Ytpgibngohbohdaa
