/-
  Package disk: trouble, has, Count, Waits, Fail.
-/
import Derived.Test.YtpgibngohbohdaaDiskMem
namespace Go.Proofs.Ytpgibngohbohdaa
open Go.RowKit Go.Maps
set_option linter.unusedVariables false
set_option linter.unusedSimpArgs false

/-- Can a call do nothing? -/
def DM.trb (m : DM) : Bool := m.off || (m.tf && decide (m.fl ≤ 0))
def DM.after (m : DM) : DM := { m with tf := if m.off then m.tf else if m.tf && decide (m.fl ≤ 0) then false else m.tf, fl := if m.off then m.fl else if m.tf && decide (m.fl ≤ 0) then 0 else wrap64 (m.fl - 1) }

set_option maxRecDepth 100000 in
set_option maxHeartbeats 2000000 in
theorem trouble_any (m : DM) (b : Nat) (w : World) (B : Blk w b m.cells) : Calls Try.prog 52 #[.pointer (some ⟨b, 0, none⟩)] w fun e w' => e = .returned (.int .i64 (if m.trb then 20 else 0)) ∧ Blk w' b m.after.cells ∧ Sole (fun k => k = b) w w' := by
  have Bh := hid B
  obtain ⟨off, tl, cl, tf, fl, sp, sc, Ls, wp, wc, Qs, fp, fc, Fs, lm, om, n, n', DL, DO⟩ := m
  unfold DM.trb DM.after
  simp only [DM.cells] at B Bh ⊢
  generalize Ls.length = ls at *
  generalize Qs.length = qs at *
  generalize Fs.length = fs at *
  have B0 := Bh.out
  obtain ⟨l0, k0, f0⟩ := B
  go_enter Try.func52, Try.ntmps52
  cases off with
  | true =>
    clear B0
    go_wp2_with fail
    go_ret
    exact ⟨rfl, Bh.out, Sole.refl _ _⟩
  | false =>
    by_cases h : tf = true ∧ fl ≤ 0
    · obtain ⟨rfl, hf⟩ := h
      have B1 := hid ((B0.set 9 (.bool false) (by simp)).set 10 (.int .i64 0) (by simp))
      have S1 := hid ((Sole.setCell (S := fun k => k = b) w (b := b) (o := 9) (.bool false) rfl).trans (Sole.setCell _ (b := b) (o := 10) (.int .i64 0) rfl))
      have hfd : decide (fl ≤ 0) = true := decide_eq_true hf
      clear B0
      go_wp2_with fail
      go_ret
      simp only [hfd, Bool.and_true, Bool.true_and, Bool.false_or, Bool.or_true, Bool.false_eq_true, if_false, ↓reduceIte]
      exact ⟨rfl, B1.out, S1.out⟩
    · have B1 := hid (B0.set 10 (.int .i64 (wrap64 (fl - 1))) (by simp))
      have S1 := hid (Sole.setCell (S := fun k => k = b) w (b := b) (o := 10) (.int .i64 (wrap64 (fl - 1))) rfl)
      clear B0
      cases tf with
      | false =>
        go_wp2_with fail
        go_ret
        exact ⟨rfl, B1.out, S1.out⟩
      | true =>
        have hf : ¬ fl ≤ 0 := fun h' => h ⟨rfl, h'⟩
        have hfd : decide (fl ≤ 0) = false := decide_eq_false hf
        clear h
        go_wp2_with fail
        go_ret
        simp only [hfd, Bool.and_false, Bool.false_or, Bool.or_false, Bool.false_eq_true, if_false, ↓reduceIte]
        exact ⟨rfl, B1.out, S1.out⟩
set_option maxRecDepth 100000 in
theorem has_any (m : DM) (b : Nat) (z : Int) (w : World) (B : Blk w b m.cells) : Calls Try.prog 53 #[.pointer (some ⟨b, 0, none⟩), .int .i64 z] w fun e w' => e = .returned (.bool (decide (0 ≤ z ∧ z < (m.Ls.length : Int)))) ∧ w' = w := by
  simp only [DM.cells, DM.sv, DM.wv, DM.fv] at B
  obtain ⟨l0, k0, f0⟩ := B
  go_enter Try.func53, Try.ntmps53
  by_cases h : 0 ≤ z
  · have hd : decide (z ≥ 0) = true := decide_eq_true h
    go_wp2_with fail
    go_ret
    exact ⟨by simp [h], rfl⟩
  · have hd : decide (z ≥ 0) = false := decide_eq_false h
    go_wp2_with fail
    go_ret
    exact ⟨by simp [h], rfl⟩
end Go.Proofs.Ytpgibngohbohdaa
