/-
  Package grove: of nodes that nobody made: made, all, Ids.
-/
import Derived.Test.YtgjdngpninpgmaaLay
import Derived.Test.YtgjdngpninpgmaaChecked
import Derived.Test.YtgjdngpninpgmaaBig
import Derived.Test.YtgjdngpninpgmaaAidMore
import Derived.Test.YtgjdngpninpgmaaRegion
import Derived.WalkSpells
import Derived.ChangeMaps5
import Derived.Lib.BufferMore
import Derived.Shelf.SlIterI.Nil
import Derived.Shelf.SortM.Plain
import Derived.Shelf.SortM.SortNone
namespace Go.Proofs.Ytgjdngpninpgmaa
open Go.RowKit Go.Maps Go.Sort Go.Shelf
set_option linter.unusedVariables false
set_option linter.unusedSimpArgs false

theorem below_al {w w' : World} {o : Obj} (hb : Below (w.alloc o).heap.size (w.alloc o) w') : Below w.heap.size w w' := ((Below.refl _ _).alloc (Nat.le_refl _) o).trans (hb.mono (by simp))
set_option maxRecDepth 100000 in
theorem gallNil (w : World) : Calls Try.prog 53 #[.pointer none] w fun e w' => e = .returned (.map none) ∧ w' = w := by
  go_enter Try.func53, Try.ntmps53
  go_wp2
  go_ret
  exact ⟨rfl, rfl⟩
set_option maxRecDepth 100000 in
theorem gallOf (p : Nat) (m : Value) (w : World) (B : Blk w p #[m]) : Calls Try.prog 53 #[.pointer (some ⟨p, 0, none⟩)] w fun e w' => e = .returned m ∧ w' = w := by
  obtain ⟨lb, kb, fb⟩ := B
  go_enter Try.func53, Try.ntmps53
  go_wp2
  go_ret
  exact ⟨rfl, rfl⟩
set_option maxRecDepth 100000 in
theorem gmadeNil (w : World) : Calls Try.prog 42 #[.pointer none] w fun e w' => e = .returned (.bool false) ∧ w' = w := by
  go_enter Try.func42, Try.ntmps42
  go_wp2
  go_ret
  exact ⟨rfl, rfl⟩
set_option maxRecDepth 100000 in
theorem gmadeOf (p : Nat) (r : Option Nat) (w : World) (B : Blk w p #[.map r]) : Calls Try.prog 42 #[.pointer (some ⟨p, 0, none⟩)] w fun e w' => e = .returned (.bool r.isSome) ∧ w' = w := by
  obtain ⟨lb, kb, fb⟩ := B
  have kN := run_neq_map_nil (P := Try.prog) w 82 _ _ r Try.underlying82
  go_enter Try.func42, Try.ntmps42
  go_wp2
  go_ret
  exact ⟨rfl, rfl⟩

theorem below_one (w : World) (o : Obj) : Below w.heap.size w (w.alloc o) := (Below.refl _ _).alloc (Nat.le_refl _) _
/-- A node without anything. -/
abbrev gnode0 : Value := .agg #[.bool false, .slice none 0 0, .int .i64 0, .int .i64 0, .int .i64 0, .int .i64 0, .int .i64 0, .int .i64 0, .int .i64 0, .int .i64 0, .int .i64 0]
@[go_sem high] theorem glookup_nil (k : Int) (w : World) : (Instr.lookup 82 (.map none) (.int .i64 k) true).run Try.prog w = .ok (.tuple #[gnode0, .bool false]) w := by
  first | kernel_rfl | rfl
@[go_sem high] theorem gdelete_nil (k : Int) (w : World) (ty : TypeId) : (Builtin.delete_ #[82, 3] ty #[.map none, .int .i64 k]).run Try.prog w = .ok (.tuple #[]) w := by
  first | kernel_rfl | rfl
set_option maxRecDepth 100000 in
theorem gclone_nil (w : World) : Calls Try.prog 56 #[.slice none 0 0] w fun e w' => e = .returned (.slice none 0 0) ∧ w' = w := by
  have kE := Lib.run_eql_slice_nil_nil (P := Try.prog) w (t := 22) (e := 28) 0 0 Try.underlying22
  go_enter Try.func56, Try.ntmps56
  go_wp2
  go_ret
  exact ⟨rfl, rfl⟩
set_option maxRecDepth 100000 in
theorem gcopied0 (w : World) : Calls Try.prog 44 #[gnode0] w fun e w' => e = .returned gnode0 ∧ Below w.heap.size w w' := by
  have K := hid (fun w => gclone_nil w)
  have D0 := hid (((Below.refl w.heap.size w).alloc (Nat.le_refl _) (.cells #[.bool false, .slice none 0 0, .int .i64 0, .int .i64 0, .int .i64 0, .int .i64 0, .int .i64 0, .int .i64 0, .int .i64 0, .int .i64 0, .int .i64 0] 62)).alloc (by simp) (.cells #[.bool false, .slice none 0 0, .int .i64 0, .int .i64 0, .int .i64 0, .int .i64 0, .int .i64 0, .int .i64 0, .int .i64 0, .int .i64 0, .int .i64 0] 62))
  go_enter Try.func44, Try.ntmps44
  go_wp2_with fail
  refine (K.out _).mono ?_
  rintro e w1 ⟨rfl, rfl⟩
  clear K
  go_wp2_with fail
  refine bodyPost_ret (v := gnode0) (by simp [results, Try.results44, go_sem]) rfl ?_
  exact ⟨rfl, D0.out⟩
/-- A grove that nobody made. -/
def NoGrove (w : World) (v : Value) : Prop := v = .pointer none ∨ ∃ p, v = .pointer (some ⟨p, 0, none⟩) ∧ Blk w p #[.map none]
theorem NoGrove.more {w w' : World} {v : Value} (h : NoGrove w v) (hb : Below w.heap.size w w') : NoGrove w' v := h.imp id fun ⟨p, e, B⟩ => ⟨p, e, B.more hb⟩
theorem ngAll (v : Value) (w : World) (h : NoGrove w v) : Calls Try.prog 53 #[v] w fun e w' => e = .returned (.map none) ∧ w' = w := by
  rcases h with rfl | ⟨p, rfl, B⟩
  · exact gallNil w
  · exact gallOf p _ w B
theorem ngMade (v : Value) (w : World) (h : NoGrove w v) : Calls Try.prog 42 #[v] w fun e w' => e = .returned (.bool false) ∧ w' = w := by
  rcases h with rfl | ⟨p, rfl, B⟩
  · exact gmadeNil w
  · exact gmadeOf p none w B
set_option maxRecDepth 100000 in
set_option maxHeartbeats 4000000 in
theorem ngGet (v : Value) (k : Int) (w : World) (h : NoGrove w v) : Calls Try.prog 41 #[v, .int .i64 k] w fun e w' => e = .returned (.tuple #[gnode0, .bool false]) ∧ Below w.heap.size w w' := by
  have K := hid (fun w h => ngAll v w h)
  have KC := hid (fun w => gcopied0 w)
  have h1 := hid (h.more (below_one w (.cells #[.bool false, .slice none 0 0, .int .i64 0, .int .i64 0, .int .i64 0, .int .i64 0, .int .i64 0, .int .i64 0, .int .i64 0, .int .i64 0, .int .i64 0] 62)))
  have BX := hid (Blk.new w #[.bool false, .slice none 0 0, .int .i64 0, .int .i64 0, .int .i64 0, .int .i64 0, .int .i64 0, .int .i64 0, .int .i64 0, .int .i64 0, .int .i64 0] 62)
  have D0 := hid (((Below.refl w.heap.size w).alloc (Nat.le_refl _) (.cells #[.bool false, .slice none 0 0, .int .i64 0, .int .i64 0, .int .i64 0, .int .i64 0, .int .i64 0, .int .i64 0, .int .i64 0, .int .i64 0, .int .i64 0] 62)).alloc (by simp) (.cells #[.bool false, .slice none 0 0, .int .i64 0, .int .i64 0, .int .i64 0, .int .i64 0, .int .i64 0, .int .i64 0, .int .i64 0, .int .i64 0, .int .i64 0] 62))
  clear h
  go_enter Try.func41, Try.ntmps41
  go_wp2_with fail
  refine (K.out _ h1.out).mono ?_
  rintro e w1 ⟨rfl, rfl⟩
  go_wp2_with fail
  refine (KC.out _).mono ?_
  rintro e w2 ⟨rfl, hb2⟩
  have B2 := (BX.out.more (below_one _ _)).more hb2
  have D2 := hid (below2 D0.out hb2 D0.out.size)
  obtain ⟨l1, k1, f1⟩ := B2
  clear hb2 K KC BX
  go_wp2
  have B3 : Blk (setAll w2 w.heap.size 0 [.bool false, .slice none 0 0, .int .i64 0, .int .i64 0, .int .i64 0, .int .i64 0, .int .i64 0, .int .i64 0, .int .i64 0, .int .i64 0, .int .i64 0]) w.heap.size _ := Blk.fill [.bool false, .slice none 0 0, .int .i64 0, .int .i64 0, .int .i64 0, .int .i64 0, .int .i64 0, .int .i64 0, .int .i64 0, .int .i64 0, .int .i64 0] 0 ⟨l1, k1, f1⟩ (by simp)
  have D3 := hid (below_fill (b := w.heap.size) (Nat.le_refl _) [.bool false, .slice none 0 0, .int .i64 0, .int .i64 0, .int .i64 0, .int .i64 0, .int .i64 0, .int .i64 0, .int .i64 0, .int .i64 0, .int .i64 0] 0 D2.out)
  simp only [setAll, Nat.zero_add, Nat.reduceAdd] at B3 D3
  generalize World.setCell _ _ _ = W3 at *
  obtain ⟨l3, k3, f3⟩ := B3
  clear l1 k1 f1
  refine bodyPost_ret (v := .tuple #[gnode0, .bool false]) (by simp [results, Try.results41, go_sem, k3, fillC]) rfl ⟨rfl, D3.out⟩
set_option maxRecDepth 100000 in
theorem ngPut (v : Value) (k : Int) (c : Array Value) (w : World) (h : NoGrove w v) : Calls Try.prog 29 #[v, .int .i64 k, .agg c] w fun e w' => e = .returned (.int .i64 9) ∧ Below w.heap.size w w' := by
  have h1 := h.more (below_one w (.cells c 62))
  have K := hid (ngMade v _ h1)
  have D0 := hid (below_one w (.cells c 62))
  clear h h1
  go_enter Try.func29, Try.ntmps29
  go_wp2_with fail
  refine K.out.mono ?_
  rintro e w1 ⟨rfl, rfl⟩
  clear K
  go_wp2
  go_ret
  exact ⟨rfl, D0.out⟩
end Go.Proofs.Ytgjdngpninpgmaa
