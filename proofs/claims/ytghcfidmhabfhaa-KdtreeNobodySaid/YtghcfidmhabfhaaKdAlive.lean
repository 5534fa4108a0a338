/-
  Layer 44: alive: of one point.
-/
import Derived.Test.YtghcfidmhabfhaaKdWalk
import Derived.Test.YtghcfidmhabfhaaPlainInts
namespace Go.Proofs.Ytghcfidmhabfhaa
open Go.RowKit
set_option linter.unusedVariables false
set_option linter.unusedSimpArgs false

def kiT : RowT Int := { ty := 3, sl := 23, sz := 1, bytes := 8, zero := .int .i64 0, cells := fun x => [.int .i64 x], dflt := 0 }
theorem kiOk : kiT.Ok := ⟨Try.underlying23, by kernel_rfl, rfl, by decide, fun _ => rfl, fun x u hu => by
  simp [kiT] at hu
  rcases hu with rfl; rfl⟩

theorem RowP.imp_sole {S : Nat → Prop} {w w' : World} {p : Option Addr} {sz n : Nat} {f : Nat → List Value} (h : RowP w p sz n f) (hs : Sole S w w') (hn : ∀ b o, p = some ⟨b, o, none⟩ → ¬ S b) : RowP w' p sz n f :=
  h.imp id fun ⟨b, o, e, r⟩ => ⟨b, o, e, Nat.lt_of_lt_of_le r.lt hs.size, fun i hi j v hv => (hs.cell r.lt (hn b o e)).trans (r.cell i hi j v hv)⟩
set_option maxRecDepth 100000 in
theorem kdepth1 (x : Pt) (lb : Nat) (W : World) (B : Blk W lb #[.int .i64 0]) : Calls Try.prog 61 #[pval x, .int .i64 0, .pointer (some ⟨lb, 0, none⟩)] W fun e w' => e = .returned (.tuple #[.bool true, .bool true]) ∧ Sole (fun k => k = lb) W w' ∧ Blk w' lb #[.int .i64 1] := by
  obtain ⟨xi, xx, xy, xd⟩ := x
  dsimp only [pval]
  have hb := (Below.refl W.heap.size W).alloc (Nat.le_refl _) (.cells #[.int .i64 xi, .int .u32 xx, .int .u32 xy, .string xd] 102)
  have B1 := B.more hb
  generalize hW : W.alloc _ = W1 at *
  have S1 : Sole (fun k => k = lb) W W1 := Sole.made hb
  have S2 : Sole (fun k => k = lb) W1 (W1.setCell ⟨lb, 0, none⟩ (.int .i64 1)) := Sole.setCell _ _ rfl
  have B2 := hid (B1.set 0 (.int .i64 1) (by simp))
  have S3 := hid (S1.trans S2)
  obtain ⟨l0, k0, f0⟩ := B1
  clear S1 S2 hb B
  go_enter Try.func61, Try.ntmps61
  go_upto_region 1 with (fail)
  try rw [hW]
  clear hW
  go_wp2
  go_ret2
  exact ⟨rfl, S3.out, B2.out⟩
set_option maxRecDepth 100000 in
set_option maxHeartbeats 1000000 in
theorem korder1 (x : Pt) (lb base : Nat) (W : World) (B : Blk W lb #[.slice none 0 0]) (hbase : base ≤ W.heap.size) : Calls Try.prog 60 #[pval x, .int .i64 0, .pointer (some ⟨lb, 0, none⟩)] W fun e w' => e = .returned (.tuple #[.bool true, .bool true]) ∧ Sole (fun k => k = lb) W w' ∧ ∃ g cap, Blk w' lb #[.slice (some ⟨g, 0, none⟩) 1 cap] ∧ 1 ≤ cap ∧ cap ≤ maxLen ∧ RowOf kiT w' (some ⟨g, 0, none⟩) [x.id] := by
  obtain ⟨xi, xx, xy, xd⟩ := x
  dsimp only [pval]
  have hb := (Below.refl W.heap.size W).alloc (Nat.le_refl _) (.cells #[.int .i64 xi, .int .u32 xx, .int .u32 xy, .string xd] 102)
  have B1 := B.more hb
  have BX := Blk.new W #[.int .i64 xi, .int .u32 xx, .int .u32 xy, .string xd] 102
  have hlb := B.lt
  have hsz : (W.alloc (.cells #[.int .i64 xi, .int .u32 xx, .int .u32 xy, .string xd] 102)).heap.size = W.heap.size + 1 := by simp
  generalize hW : W.alloc _ = W1 at *
  have S1 : Sole (fun k => k = lb) W W1 := Sole.made hb
  have BI := Blk.new W1 #[.int .i64 xi] 3
  have RI : RowOf kiT (W1.alloc (.cells #[.int .i64 xi] 3)) (some ⟨W1.heap.size, 0, none⟩) [xi] := rowOf_one kiOk BI rfl
  have hb2 := (Below.refl W1.heap.size W1).alloc (Nat.le_refl _) (.cells #[.int .i64 xi] 3)
  obtain ⟨v', w', hr, O', gr, mv⟩ := append_row kiOk W1.heap.size 23 (W1.alloc (.cells #[.int .i64 xi] 3)) (.slice none 0 0) [] (RowOwn.nil _ _) (some ⟨W1.heap.size, 0, none⟩) 1 [xi] RI (by show (0 + 1) * 8 ≤ _; omega) (by unfold maxLen; simp) (by simp)
  have hb3 := Below.grown hb2 gr (by simp) (fun k hk => by cases hk)
  rw [List.nil_append] at O'
  rcases O'.form with ⟨hv, h0⟩ | ⟨g, cap, rfl, hg1, hg2, c1, c2⟩
  · cases h0
  · obtain ⟨p2, cap2, he, d1, d2, RO⟩ := O'.open kiOk
    cases he
    have B3 := B1.more hb3
    have S2 : Sole (fun k => k = lb) W1 w' := Sole.made hb3
    have S4 : Sole (fun k => k = lb) w' (w'.setCell ⟨lb, 0, none⟩ (.slice (some ⟨g, 0, none⟩) 1 cap)) := Sole.setCell _ _ rfl
    have B5 := hid (B3.set 0 (.slice (some ⟨g, 0, none⟩) 1 cap) (by simp))
    have S5 := hid ((S1.trans S2).trans S4)
    have R5 := hid (show RowOf kiT (w'.setCell ⟨lb, 0, none⟩ (.slice (some ⟨g, 0, none⟩) 1 cap)) (some ⟨g, 0, none⟩) [xi] from RowP.imp_sole RO S4 (fun b o e hk => by cases e; omega))
    obtain ⟨l0, k0, f0⟩ := B1
    obtain ⟨lx, kx, fx⟩ := BX
    obtain ⟨l3, k3, f3⟩ := B3
    clear S1 S2 S4 hb hb2 hb3 B RI BI O' gr mv RO
    replace hsz := hid hsz
    go_enter Try.func60, Try.ntmps60
    go_upto_region 1 with (fail)
    try rw [hW]
    clear hW
    go_wp2_with (at_builtin; refine Lib.wpList_append_run _ rfl _ _ _ _ rfl _ _ rfl rfl _ _ hr ?_)
    go_ret2
    exact ⟨rfl, S5.out, g, cap, B5.out, c1, c2, R5.out⟩
end Go.Proofs.Ytghcfidmhabfhaa
