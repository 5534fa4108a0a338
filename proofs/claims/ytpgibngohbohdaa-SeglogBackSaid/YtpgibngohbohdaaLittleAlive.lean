/-
  Layer 1: the page's example: 258 in three octets.
-/
import Derived.Test.YtpgibngohbohdaaLittleNobody
import Derived.OwnWalk
import Derived.Lib.BufferMore
import Derived.Test.YtpgibngohbohdaaBig
import Derived.Lib.SlBytesRow
namespace Go.Proofs.Ytpgibngohbohdaa
open Go.RowKit
set_option linter.unusedVariables false
set_option linter.unusedSimpArgs false

theorem new_any (n : Int) (w : World) : Calls Try.prog 74 #[.int .i64 n] w fun e w' => e = .returned (at' w.heap.size) ∧ w' = w.alloc (.cells #[.bool true, .int .i64 (min (max n 0) 65536), .slice none 0 0, .int .i64 0] 166) := by
  have K := hid (fun w => nearest_any n 0 65536 w)
  go_enter Try.func74, Try.ntmps74
  go_wp2_with fail
  refine (K.out _).mono ?_
  rintro e w1 ⟨rfl, rfl⟩
  go_wp2
  go_ret
  exact ⟨rfl, rfl⟩

set_option maxRecDepth 100000 in
theorem lend3 (p : Nat) (w : World) (B : Blk w p #[.bool true, .int .i64 9, .slice none 0 0, .int .i64 0]) : Calls Try.prog 100 #[at' p, .int .i64 3] w fun e w' => e = .returned (.tuple #[.slice (some ⟨w.heap.size, 0, none⟩) 3 3, .bool true]) ∧
    ∃ c : Array Value, ∃ C : Nat, 3 ≤ C ∧ C ≤ maxLen ∧ 3 ≤ c.size ∧ Blk w' p #[.bool true, .int .i64 9, .slice (some ⟨w.heap.size, 0, none⟩) 3 C, .int .i64 0] ∧ Blk w' w.heap.size c ∧ Below p w w' := by
  have HB := hid B
  have hc : 3 ≤ (Question.appendCap 3 0 5).cut (w.tape w.drawn (Question.appendCap 3 0 5)) := grownCap_ge w 3 0 5
  have hm : (Question.appendCap 3 0 5).cut (w.tape w.drawn (Question.appendCap 3 0 5)) ≤ maxLen := grownCap_le_maxLen w 3 0 5 (by unfold maxLen; omega)
  have hc' : (3 : Int) ≤ ((Question.appendCap 3 0 5).cut (w.tape w.drawn (Question.appendCap 3 0 5)) : Nat) := by omega
  replace hm := hid hm
  obtain ⟨l0, k0, f0⟩ := B
  go_enter Try.func100, Try.ntmps100
  go_wp2_with fail
  all_goals try (exfalso; omega)
  go_ret2
  refine ⟨rfl, Builtin.zeroCells #[.int .u8 0] 3 ++ Builtin.zeroCells #[.int .u8 0] ((Question.appendCap 3 0 5).cut (w.tape w.drawn (Question.appendCap 3 0 5)) - 3), _, hc, hm.out, ?_, ((HB.out.set 2 _ (by simp)).alloc _).drew, ?_, ?_⟩
  · rw [Array.size_append]
    have : (Builtin.zeroCells #[.int .u8 0] 3).size = 3 := by first | rfl | kernel_rfl | simp [Builtin.zeroCells]
    omega
  · refine Blk.drew ?_
    generalize hV : w.setCell _ _ = V
    have hs : V.heap.size = w.heap.size := by rw [← hV]; exact size_setAll (b := p) [_] 2 w
    rw [← hs]
    exact Blk.new _ _ _
  · refine Below.drew (Below.alloc (below_fill (Nat.le_refl p) [_] 2 (Below.refl p w)) ?_ _)
    rw [size_setAll]
    omega

set_option maxRecDepth 100000 in
theorem num3 (p : Nat) (w : World) (B : Blk w p #[.bool true, .int .i64 9, .slice none 0 0, .int .i64 0]) : Calls Try.prog 75 #[at' p, .int .i64 258, .int .i64 3] w fun e w' => e = .returned (.tuple #[]) ∧
    ∃ c : Array Value, ∃ C g : Nat, 3 ≤ C ∧ C ≤ maxLen ∧ Blk w' p #[.bool true, .int .i64 9, .slice (some ⟨g, 0, none⟩) 3 C, .int .i64 0] ∧ Blk w' g c ∧ c[0]? = some (.int .u8 2) ∧ c[1]? = some (.int .u8 1) ∧ c[2]? = some (.int .u8 0) ∧ Below p w w' := by
  have KN := hid (fun w => nearest_any 3 1 6 w)
  have KL := hid (lend3 p w B)
  have hlt := B.lt
  rw [show min (max (3 : Int) 1) 6 = 3 from rfl] at KN
  go_enter Try.func75, Try.ntmps75
  go_wp2_with fail
  refine (KN.out _).mono ?_
  rintro e w1 ⟨rfl, rfl⟩
  go_wp2_with fail
  refine KL.out.mono ?_
  rintro e w2 ⟨rfl, c, C, h1, h2, h3, P, G, H⟩
  generalize hg : w1.heap.size = g at *
  have hne : p ≠ g := by omega
  have HG := hid G
  replace P := hid P
  replace H := hid H
  obtain ⟨l0, k0, f0⟩ := G
  have c0 : c[0]? = some c[0] := by simp
  have c1 : c[1]? = some c[1] := by simp
  have c2 : c[2]? = some c[2] := by simp
  generalize c[0] = z0 at *
  generalize c[1] = z1 at *
  generalize c[2] = z2 at *
  go_wp2_with fail
  refine wp_loop_rounds 4 ?_
  rw [rounds_succ]
  go_wp2_with fail
  rw [rounds_succ]
  go_wp2_with fail
  rw [rounds_succ]
  go_wp2_with fail
  rw [rounds_succ]
  go_wp2_with fail
  go_end0
  refine ⟨rfl, _, C, g, h1, h2, Blk.past (Ne.symm hne) [_, _, _] 0 P.out, Blk.fill [_, _, _] 0 HG.out (by simp; omega), ?_, ?_, ?_, below_fill (by omega) [_, _, _] 0 H.out⟩
  · exact (fillC_get 0 c 0 (by simp; omega)).trans (by simp)
  · exact (fillC_get 0 c 1 (by simp; omega)).trans (by simp)
  · exact (fillC_get 0 c 2 (by simp; omega)).trans (by simp)

set_option maxRecDepth 100000 in
theorem clone3 (g C : Nat) (c : Array Value) (h1 : 3 ≤ C) (h2 : C ≤ maxLen) (w : World) (G : Blk w g c) (c0 : c[0]? = some (.int .u8 2)) (c1 : c[1]? = some (.int .u8 1)) (c2 : c[2]? = some (.int .u8 0)) :
    Calls Try.prog 101 #[.slice (some ⟨g, 0, none⟩) 3 C] w fun e w' => ∃ b cap, e = .returned (.slice (some ⟨b, 0, none⟩) 3 cap) ∧ w'.cell? ⟨b, 0, none⟩ = some (.int .u8 2) ∧ w'.cell? ⟨b, 1, none⟩ = some (.int .u8 1) ∧ w'.cell? ⟨b, 2, none⟩ = some (.int .u8 0) ∧ Below w.heap.size w w' := by
  have ke := fun w => Lib.run_eql_slice_some_nil (P := Try.prog) w (t := 35) (e := 5) ⟨g, 0, none⟩ 3 C Try.underlying35
  have hg := grownCap_ge
  unfold grownCap at hg
  obtain ⟨l0, k0, f0⟩ := G
  go_enter Try.func101, Try.ntmps101
  go_wp2_with fail
  go_ret
  exact ⟨_, _, rfl, ((boxed2 (Below.drew (Below.refl _ _))).2.1.cell 0).trans (by simp [Array.getElem?_append]), ((boxed2 (Below.drew (Below.refl _ _))).2.1.cell 1).trans (by simp [Array.getElem?_append]), ((boxed2 (Below.drew (Below.refl _ _))).2.1.cell 2).trans (by simp [Array.getElem?_append]), (boxed2 (Below.drew (Below.refl _ _))).2.2⟩

set_option maxRecDepth 100000 in
theorem done3 (p g C : Nat) (c : Array Value) (h1 : 3 ≤ C) (h2 : C ≤ maxLen) (w : World) (B : Blk w p #[.bool true, .int .i64 9, .slice (some ⟨g, 0, none⟩) 3 C, .int .i64 0]) (G : Blk w g c) (c0 : c[0]? = some (.int .u8 2)) (c1 : c[1]? = some (.int .u8 1)) (c2 : c[2]? = some (.int .u8 0)) :
    Calls Try.prog 76 #[at' p] w fun e w' => ∃ b cap, e = .returned (.tuple #[.slice (some ⟨b, 0, none⟩) 3 cap, .int .i64 0]) ∧ w'.cell? ⟨b, 0, none⟩ = some (.int .u8 2) ∧ w'.cell? ⟨b, 1, none⟩ = some (.int .u8 1) ∧ w'.cell? ⟨b, 2, none⟩ = some (.int .u8 0) ∧ Below w.heap.size w w' := by
  have K := hid (clone3 g C c h1 h2 w G c0 c1 c2)
  clear G c0 c1 c2
  obtain ⟨l0, k0, f0⟩ := B
  go_enter Try.func76, Try.ntmps76
  go_wp2_with fail
  refine K.out.mono ?_
  rintro e w1 ⟨b, cap, rfl, d0, d1, d2, H⟩
  replace H := hid H
  go_wp2
  go_ret2
  exact ⟨b, cap, rfl, d0, d1, d2, H.out⟩

theorem bytes3 {w : World} {b : Nat} (d0 : w.cell? ⟨b, 0, none⟩ = some (.int .u8 2)) (d1 : w.cell? ⟨b, 1, none⟩ = some (.int .u8 1)) (d2 : w.cell? ⟨b, 2, none⟩ = some (.int .u8 0)) (cap : Nat) :
    (convert 35 9 (.slice (some ⟨b, 0, none⟩) 3 cap)).run Try.prog w = .ok (.string ⟨#[2, 1, 0]⟩) w :=
  Lib.run_convert_whole (P := Try.prog) w 35 5 9 Try.underlying35 Try.underlying5 Try.underlying9 b 0 ⟨#[2, 1, 0]⟩ (fun i hi => by
    match i, hi with
    | 0, _ => exact d0
    | 1, _ => exact d1
    | 2, _ => exact d2) cap

end Go.Proofs.Ytpgibngohbohdaa
