/-
  Package disk: Write whatever comes, Fail.
-/
import Derived.Test.YtpgibngohbohdaaDiskPower
namespace Go.Proofs.Ytpgibngohbohdaa
open Go.RowKit Go.Maps
set_option linter.unusedVariables false
set_option linter.unusedSimpArgs false

theorem wr_bad (m : DM) (b : Nat) (z : Int) (K : Nat → Prop) (w : World) (D : DiskM w b m K) (h : m.trb = true) (a : Option Addr) (n cap : Nat) :
    Calls Try.prog 23 #[.pointer (some ⟨b, 0, none⟩), .int .i64 z, .slice a n cap] w fun e w' => e = .returned (.int .i64 20) ∧ DiskM w' b m.after K ∧ Sole K w w' := by
  have KT := hid (trouble_any m b w D.blk)
  have Dh := hid D
  have ht := h
  clear D h
  simp only [ht, if_true, ↓reduceIte] at KT
  go_enter Try.func23, Try.ntmps23
  go_wp2_with fail
  refine KT.out.mono ?_
  rintro e w1 ⟨rfl, hB, hS⟩
  have E := hid (show DiskM w1 b m.after K ∧ Sole K w w1 from ⟨Dh.out.after hB hS, hS.mono fun k _ e => e ▸ Dh.out.kk _ (.inl rfl)⟩)
  clear hB hS KT Dh
  go_wp2_with fail
  go_ret
  exact ⟨rfl, E.out⟩
theorem wr_far (m : DM) (b : Nat) (z : Int) (K : Nat → Prop) (w : World) (D : DiskM w b m K) (h : m.trb = false) (hr : ¬ (0 ≤ z ∧ z < (m.Ls.length : Int))) (a : Option Addr) (n cap : Nat) :
    Calls Try.prog 23 #[.pointer (some ⟨b, 0, none⟩), .int .i64 z, .slice a n cap] w fun e w' => e = .returned (.int .i64 4) ∧ DiskM w' b m.after K ∧ Sole K w w' := by
  have KT := hid (trouble_any m b w D.blk)
  have Dh := hid D
  have ht := h
  clear D h
  simp only [ht, Bool.false_eq_true, if_false, ↓reduceIte] at KT
  go_enter Try.func23, Try.ntmps23
  go_wp2_with fail
  refine KT.out.mono ?_
  rintro e w1 ⟨rfl, hB, hS⟩
  have KH := has_any m.after b z w1 hB
  rw [show decide (0 ≤ z ∧ z < (m.after.Ls.length : Int)) = false from decide_eq_false hr] at KH
  replace KH := hid KH
  have E := hid (show DiskM w1 b m.after K ∧ Sole K w w1 from ⟨Dh.out.after hB hS, hS.mono fun k _ e => e ▸ Dh.out.kk _ (.inl rfl)⟩)
  clear hB hS KT Dh hr
  go_wp2_with fail
  refine KH.out.mono ?_
  rintro e w2 ⟨rfl, hw⟩
  rw [hw]
  clear hw w2 KH
  go_wp2_with fail
  go_ret
  exact ⟨rfl, E.out⟩
theorem wr_long (m : DM) (b : Nat) (z : Int) (K : Nat → Prop) (w : World) (D : DiskM w b m K) (h : m.trb = false) (hr : 0 ≤ z ∧ z < (m.Ls.length : Int)) (a : Option Addr) (n cap : Nat) (hn : n ≠ 256) :
    Calls Try.prog 23 #[.pointer (some ⟨b, 0, none⟩), .int .i64 z, .slice a n cap] w fun e w' => e = .returned (.int .i64 5) ∧ DiskM w' b m.after K ∧ Sole K w w' := by
  have KT := hid (trouble_any m b w D.blk)
  have Dh := hid D
  have ht := h
  clear D h
  simp only [ht, Bool.false_eq_true, if_false, ↓reduceIte] at KT
  go_enter Try.func23, Try.ntmps23
  go_wp2_with fail
  refine KT.out.mono ?_
  rintro e w1 ⟨rfl, hB, hS⟩
  have KH := has_any m.after b z w1 hB
  rw [show decide (0 ≤ z ∧ z < (m.after.Ls.length : Int)) = true from decide_eq_true hr] at KH
  replace KH := hid KH
  have E := hid (show DiskM w1 b m.after K ∧ Sole K w w1 from ⟨Dh.out.after hB hS, hS.mono fun k _ e => e ▸ Dh.out.kk _ (.inl rfl)⟩)
  have hn' : ((n : Int) == 256) = false := by rw [beq_eq_false_iff_ne]; omega
  clear hB hS KT Dh hr hn
  go_wp2_with fail
  refine KH.out.mono ?_
  rintro e w2 ⟨rfl, hw⟩
  rw [hw]
  clear hw w2 KH
  go_wp2_with fail
  go_ret
  exact ⟨rfl, E.out⟩

/-- What a write answers where there is no trouble. -/
def wrC (N : Nat) (z : Int) (n : Nat) : Int := if 0 ≤ z ∧ z < (N : Int) then (if n = 256 then 0 else 5) else 4
/-- What of a disk no write changes, where no power goes. -/
structure Same (m m' : DM) : Prop where
  off : m'.off = m.off
  tl : m'.tl = m.tl
  tf : m'.tf = m.after.tf
  fl : m'.fl = m.after.fl
  L : m'.Ls = m.Ls
  O : m'.DO = m.DO
  o : m'.n' = m.n'
  q : m'.Qs.length ≤ m.Qs.length + 1
  n : m'.n ≤ m.n + 1
theorem wr_off (m : DM) (b : Nat) (z : Int) (K : Nat → Prop) (w : World) (D : DiskM w b m K) (htr : m.trb = false) (htl : m.tl = false) (hz : (Lit.int .i64 z).wf = true) (hn : m.n < 1000000) (hq : m.Qs.length ≤ 1000000)
    (x : OcS) (hx : x.there w) (hxK : ∀ b' o, x.a = some ⟨b', o, none⟩ → ¬ K b') :
    Calls Try.prog 23 #[.pointer (some ⟨b, 0, none⟩), .int .i64 z, .slice x.a x.l.length x.cap] w fun e w' => e = .returned (.int .i64 (wrC m.Ls.length z x.l.length)) ∧
      ∃ m' K', DiskM w' b m' K' ∧ Sole K w w' ∧ (∀ k, K' k → K k ∨ w.heap.size ≤ k) ∧ Same m m' := by
  unfold wrC
  by_cases hr : 0 ≤ z ∧ z < (m.Ls.length : Int)
  · rw [if_pos hr]
    by_cases hl : x.l.length = 256
    · rw [if_pos hl]
      have h := write_any (G := fun _ _ w1 w' => w' = w1) m b z K w D x hx hxK hl hz hr.1 hr.2 htr hn hq (fun y q c w1 K1 Dx => goz_off _ _ _ Dx.blk htl)
      rw [hl]
      refine h.mono ?_
      rintro e w' ⟨rfl, y, q, c, w1, K1, hy, D1, S1, hK, rfl⟩
      refine ⟨rfl, _, K1, D1, S1, hK, ⟨rfl, rfl, rfl, rfl, rfl, rfl, rfl, ?_, Nat.le_refl _⟩⟩
      show (m.Qs ++ [(⟨z, y⟩ : WtS)]).length ≤ _
      simp
    · rw [if_neg hl]
      refine (wr_long m b z K w D htr hr x.a x.l.length x.cap hl).mono ?_
      rintro e w' ⟨rfl, D1, S1⟩
      exact ⟨rfl, _, K, D1, S1, fun k h => .inl h, ⟨rfl, rfl, rfl, rfl, rfl, rfl, rfl, Nat.le_succ _, Nat.le_succ _⟩⟩
  · rw [if_neg hr]
    refine (wr_far m b z K w D htr hr x.a x.l.length x.cap).mono ?_
    rintro e w' ⟨rfl, D1, S1⟩
    exact ⟨rfl, _, K, D1, S1, fun k h => .inl h, ⟨rfl, rfl, rfl, rfl, rfl, rfl, rfl, Nat.le_succ _, Nat.le_succ _⟩⟩

/-- A call that fails is told. -/
theorem fail_any (m : DM) (b : Nat) (K : Nat → Prop) (w : World) (D : DiskM w b m K) (z : Int) (hz : (Lit.int .i64 z).wf = true) :
    Calls Try.prog 24 #[.pointer (some ⟨b, 0, none⟩), .int .i64 z] w fun e w' => e = .returned (.tuple #[]) ∧ DiskM w' b { m with tf := true, fl := z } K ∧ Sole (fun k => k = b) w w' := by
  have B0 := D.blk
  have B1 := (B0.set 9 (.bool true) (by simp [DM.cells])).set 10 (.int .i64 z) (by simp [DM.cells])
  have S1 := (Sole.setCell (S := fun k => k = b) w (b := b) (o := 9) (.bool true) rfl).trans (Sole.setCell _ (b := b) (o := 10) (.int .i64 z) rfl)
  have E := hid (And.intro (D.scal m.off m.tl true m.cl z D.cwf hz S1 B1) S1)
  clear B1 S1 D
  simp only [DM.cells, DM.sv, DM.wv, DM.fv] at B0
  obtain ⟨l0, k0, f0⟩ := B0
  go_enter Try.func24, Try.ntmps24
  go_wp2_with fail
  refine bodyPost_end (results_none rfl _ _ _) rfl ?_
  exact ⟨rfl, E.out⟩
end Go.Proofs.Ytpgibngohbohdaa
