/-
  Package grove: of nodes that nobody made: made, all, Ids.
-/
import Derived.Test.YtghboanmiggcnaaLay
import Derived.Test.YtghboanmiggcnaaChecked
import Derived.Test.YtghboanmiggcnaaBig
import Derived.Test.YtghboanmiggcnaaAidMore
import Derived.Test.YtghboanmiggcnaaRegion
import Derived.WalkSpells
import Derived.ChangeMaps5
import Derived.Lib.BufferMore
import Derived.Shelf.SlIterI.Nil
import Derived.Shelf.SortM.Plain
import Derived.Shelf.SortM.SortNone
namespace Go.Proofs.Ytghboanmiggcnaa
open Go.RowKit Go.Maps Go.Sort Go.Shelf
set_option linter.unusedVariables false
set_option linter.unusedSimpArgs false

theorem below_al {w w' : World} {o : Obj} (hb : Below (w.alloc o).heap.size (w.alloc o) w') : Below w.heap.size w w' := ((Below.refl _ _).alloc (Nat.le_refl _) o).trans (hb.mono (by simp))
set_option maxRecDepth 100000 in
theorem gallNil (w : World) : Calls Try.prog 31 #[.pointer none] w fun e w' => e = .returned (.map none) ∧ w' = w := by
  go_enter Try.func31, Try.ntmps31
  go_wp2
  go_ret
  exact ⟨rfl, rfl⟩
set_option maxRecDepth 100000 in
theorem gallOf (p : Nat) (m : Value) (w : World) (B : Blk w p #[m]) : Calls Try.prog 31 #[.pointer (some ⟨p, 0, none⟩)] w fun e w' => e = .returned m ∧ w' = w := by
  obtain ⟨lb, kb, fb⟩ := B
  go_enter Try.func31, Try.ntmps31
  go_wp2
  go_ret
  exact ⟨rfl, rfl⟩
set_option maxRecDepth 100000 in
theorem gmadeNil (w : World) : Calls Try.prog 26 #[.pointer none] w fun e w' => e = .returned (.bool false) ∧ w' = w := by
  go_enter Try.func26, Try.ntmps26
  go_wp2
  go_ret
  exact ⟨rfl, rfl⟩
set_option maxRecDepth 100000 in
theorem gmadeOf (p : Nat) (r : Option Nat) (w : World) (B : Blk w p #[.map r]) : Calls Try.prog 26 #[.pointer (some ⟨p, 0, none⟩)] w fun e w' => e = .returned (.bool r.isSome) ∧ w' = w := by
  obtain ⟨lb, kb, fb⟩ := B
  have kN := run_neq_map_nil (P := Try.prog) w 71 _ _ r Try.underlying71
  go_enter Try.func26, Try.ntmps26
  go_wp2
  go_ret
  exact ⟨rfl, rfl⟩

theorem gsorts (m : Nat) : AnyZI.SortsIn Try.prog Try.sortedI_ren Fence.wide m :=
  -- of 33
  ⟨fun blk off cap ss W hH hblk hsz => callsIn_wide.2 (AnyM.slices_Sort_int Try.sortI blk off cap ss W hH hblk hsz),
   fun p cap W => callsIn_wide.2 (AnyM.slices_Sort_int_none Try.sortI p cap W)⟩

set_option maxRecDepth 100000 in
set_option maxHeartbeats 1000000 in
/-- Ids of a nil map: none. -/
theorem gidsOf (v : Value) (w : World) (hA : Calls Try.prog 31 #[v] w fun e w' => e = .returned (.map none) ∧ w' = w) : Calls Try.prog 16 #[v] w fun e w' => e = .returned (.slice none 0 0) ∧ Below w.heap.size w w' := by
  refine (callsIn_wide (n := 6)).1 ?_
  have hseq : SeqGives Fence.wide 2 Try.prog 59 #[.pointer (some ⟨w.heap.size, 0, none⟩)] encZ (fun ss : List Int => ss = []) 0 (w.alloc (.cells #[.map none] 71)) :=
    AnyZI.keys_gives_nil (ρ := Try.keysN_ren) { Try.keysN with } Fence.wide _ trivial rfl w.heap.size _ (by simp) (by simp)
  have cK : ∀ mb W, CallsIn Fence.wide 5 Try.prog 34 #[.map mb] W fun e w' => e = .returned (.func (.func 59) #[] #[.pointer (some ⟨W.heap.size, 0, none⟩)]) ∧ w' = W.alloc (.cells #[.map mb] 71) := fun mb W => AnyZI.keys_in Try.keysN Fence.wide 5 trivial rfl mb W
  have cS := AnyZI.sorted_in Try.sortedI Fence.wide 5 trivial trivial trivial trivial rfl (by omega) (gsorts _) (enters_of Try.func58 (by kernel_rfl) rfl) 59 #[.pointer (some ⟨w.heap.size, 0, none⟩)] trivial (enters_of Try.func59 (by kernel_rfl) rfl) _ 0 (Nat.zero_le _) (by omega) _ hseq
  change CallsIn _ _ Try.prog 33 _ _ _ at cS
  have cA : CallsIn Fence.wide 5 Try.prog 31 #[v] w fun e w' => e = .returned (.map none) ∧ w' = w := callsIn_wide.2 hA
  have hfA : Fence.wide.fn 31 := trivial
  have hfK : Fence.wide.fn 34 := trivial
  have hfS : Fence.wide.fn 33 := trivial
  refine callsIn_of_wp Try.func16 rfl trivial ?_ rfl
  simp only [Try.ntmps16, List.size_toArray, List.length_cons, List.length_nil, Nat.reduceAdd, Nat.reduceSub, Array.replicate_succ, Array.replicate_zero, List.push_toArray, List.append_toArray, List.nil_append, List.cons_append]
  gi_wp2_with (first
    | (gi_at_call 31; refine cA.mono ?_; rintro e w' ⟨rfl, rfl⟩)
    | (gi_at_call 34; refine (cK _ _).mono ?_; rintro e w' ⟨rfl, rfl⟩)
    | (gi_at_call 33; refine cS.mono ?_; rintro e w' ⟨v, ss, rfl, rfl, hrow, hnil, hb⟩; obtain rfl : v = .slice none 0 0 := hnil.2 rfl))
  go_ret
  exact ⟨rfl, below_al hb⟩
theorem below_one (w : World) (o : Obj) : Below w.heap.size w (w.alloc o) := (Below.refl _ _).alloc (Nat.le_refl _) _
/-- A node without anything. -/
abbrev gnode0 : Value := .agg #[.bool false, .slice none 0 0, .int .i64 0, .int .i64 0, .int .i64 0, .int .i64 0, .int .i64 0, .int .i64 0, .int .i64 0, .int .i64 0, .int .i64 0]
@[go_sem high] theorem glookup_nil (k : Int) (w : World) : (Instr.lookup 71 (.map none) (.int .i64 k) true).run Try.prog w = .ok (.tuple #[gnode0, .bool false]) w := by
  first | kernel_rfl | rfl
@[go_sem high] theorem gdelete_nil (k : Int) (w : World) (ty : TypeId) : (Builtin.delete_ #[71, 3] ty #[.map none, .int .i64 k]).run Try.prog w = .ok (.tuple #[]) w := by
  first | kernel_rfl | rfl
set_option maxRecDepth 100000 in
theorem gclone_nil (w : World) : Calls Try.prog 56 #[.slice none 0 0] w fun e w' => e = .returned (.slice none 0 0) ∧ w' = w := by
  have kE := Lib.run_eql_slice_nil_nil (P := Try.prog) w (t := 26) (e := 53) 0 0 Try.underlying26
  go_enter Try.func56, Try.ntmps56
  go_wp2
  go_ret
  exact ⟨rfl, rfl⟩
set_option maxRecDepth 100000 in
theorem gcopied0 (w : World) : Calls Try.prog 29 #[gnode0] w fun e w' => e = .returned gnode0 ∧ Below w.heap.size w w' := by
  have K := hid (fun w => gclone_nil w)
  have D0 := hid (((Below.refl w.heap.size w).alloc (Nat.le_refl _) (.cells #[.bool false, .slice none 0 0, .int .i64 0, .int .i64 0, .int .i64 0, .int .i64 0, .int .i64 0, .int .i64 0, .int .i64 0, .int .i64 0, .int .i64 0] 29)).alloc (by simp) (.cells #[.bool false, .slice none 0 0, .int .i64 0, .int .i64 0, .int .i64 0, .int .i64 0, .int .i64 0, .int .i64 0, .int .i64 0, .int .i64 0, .int .i64 0] 29))
  go_enter Try.func29, Try.ntmps29
  go_wp2_with fail
  refine (K.out _).mono ?_
  rintro e w1 ⟨rfl, rfl⟩
  clear K
  go_wp2_with fail
  refine bodyPost_ret (v := gnode0) (by simp [results, Try.results29, go_sem]) rfl ?_
  exact ⟨rfl, D0.out⟩
/-- A grove that nobody made. -/
def NoGrove (w : World) (v : Value) : Prop := v = .pointer none ∨ ∃ p, v = .pointer (some ⟨p, 0, none⟩) ∧ Blk w p #[.map none]
theorem NoGrove.more {w w' : World} {v : Value} (h : NoGrove w v) (hb : Below w.heap.size w w') : NoGrove w' v := h.imp id fun ⟨p, e, B⟩ => ⟨p, e, B.more hb⟩
theorem ngAll (v : Value) (w : World) (h : NoGrove w v) : Calls Try.prog 31 #[v] w fun e w' => e = .returned (.map none) ∧ w' = w := by
  rcases h with rfl | ⟨p, rfl, B⟩
  · exact gallNil w
  · exact gallOf p _ w B
theorem ngMade (v : Value) (w : World) (h : NoGrove w v) : Calls Try.prog 26 #[v] w fun e w' => e = .returned (.bool false) ∧ w' = w := by
  rcases h with rfl | ⟨p, rfl, B⟩
  · exact gmadeNil w
  · exact gmadeOf p none w B
theorem ngIds (v : Value) (w : World) (h : NoGrove w v) : Calls Try.prog 16 #[v] w fun e w' => e = .returned (.slice none 0 0) ∧ Below w.heap.size w w' := gidsOf v w (ngAll v w h)
set_option maxRecDepth 100000 in
set_option maxHeartbeats 4000000 in
theorem ngGet (v : Value) (k : Int) (w : World) (h : NoGrove w v) : Calls Try.prog 12 #[v, .int .i64 k] w fun e w' => e = .returned (.tuple #[gnode0, .bool false]) ∧ Below w.heap.size w w' := by
  have K := hid (fun w h => ngAll v w h)
  have KC := hid (fun w => gcopied0 w)
  have h1 := hid (h.more (below_one w (.cells #[.bool false, .slice none 0 0, .int .i64 0, .int .i64 0, .int .i64 0, .int .i64 0, .int .i64 0, .int .i64 0, .int .i64 0, .int .i64 0, .int .i64 0] 29)))
  have BX := hid (Blk.new w #[.bool false, .slice none 0 0, .int .i64 0, .int .i64 0, .int .i64 0, .int .i64 0, .int .i64 0, .int .i64 0, .int .i64 0, .int .i64 0, .int .i64 0] 29)
  have D0 := hid (((Below.refl w.heap.size w).alloc (Nat.le_refl _) (.cells #[.bool false, .slice none 0 0, .int .i64 0, .int .i64 0, .int .i64 0, .int .i64 0, .int .i64 0, .int .i64 0, .int .i64 0, .int .i64 0, .int .i64 0] 29)).alloc (by simp) (.cells #[.bool false, .slice none 0 0, .int .i64 0, .int .i64 0, .int .i64 0, .int .i64 0, .int .i64 0, .int .i64 0, .int .i64 0, .int .i64 0, .int .i64 0] 29))
  clear h
  go_enter Try.func12, Try.ntmps12
  go_wp2_with fail
  refine (K.out _ h1.out).mono ?_
  rintro e w1 ⟨rfl, rfl⟩
  go_wp2_with fail
  refine (KC.out _).mono ?_
  rintro e w2 ⟨rfl, hb2⟩
  have B2 := (BX.out.more (below_one _ _)).more hb2
  have D2 := hid (below2 D0.out hb2 D0.out.size)
  obtain ⟨l1, k1, f1⟩ := B2
  clear hb2 K KC BX
  go_wp2
  have B3 : Blk (setAll w2 w.heap.size 0 [.bool false, .slice none 0 0, .int .i64 0, .int .i64 0, .int .i64 0, .int .i64 0, .int .i64 0, .int .i64 0, .int .i64 0, .int .i64 0, .int .i64 0]) w.heap.size _ := Blk.fill [.bool false, .slice none 0 0, .int .i64 0, .int .i64 0, .int .i64 0, .int .i64 0, .int .i64 0, .int .i64 0, .int .i64 0, .int .i64 0, .int .i64 0] 0 ⟨l1, k1, f1⟩ (by simp)
  have D3 := hid (below_fill (b := w.heap.size) (Nat.le_refl _) [.bool false, .slice none 0 0, .int .i64 0, .int .i64 0, .int .i64 0, .int .i64 0, .int .i64 0, .int .i64 0, .int .i64 0, .int .i64 0, .int .i64 0] 0 D2.out)
  simp only [setAll, Nat.zero_add, Nat.reduceAdd] at B3 D3
  generalize World.setCell _ _ _ = W3 at *
  obtain ⟨l3, k3, f3⟩ := B3
  clear l1 k1 f1
  refine bodyPost_ret (v := .tuple #[gnode0, .bool false]) (by simp [results, Try.results12, go_sem, k3, fillC]) rfl ⟨rfl, D3.out⟩
set_option maxRecDepth 100000 in
theorem ngFresh (v : Value) (w : World) (h : NoGrove w v) : Calls Try.prog 14 #[v] w fun e w' => e = .returned (.tuple #[.int .i64 0, .int .i64 9]) ∧ w' = w := by
  have K := hid (ngMade v w h)
  go_enter Try.func14, Try.ntmps14
  go_wp2_with fail
  refine K.out.mono ?_
  rintro e w1 ⟨rfl, rfl⟩
  clear K
  go_wp2
  go_ret2
  exact ⟨rfl, rfl⟩
set_option maxRecDepth 100000 in
theorem ngClone (v : Value) (w : World) (h : NoGrove w v) : Calls Try.prog 7 #[v] w fun e w' => e = .returned (.pointer none) ∧ w' = w := by
  have K := hid (ngMade v w h)
  go_enter Try.func7, Try.ntmps7
  go_wp2_with fail
  refine K.out.mono ?_
  rintro e w1 ⟨rfl, rfl⟩
  clear K
  go_wp2
  go_ret
  exact ⟨rfl, rfl⟩
set_option maxRecDepth 100000 in
theorem ngChanged (v : Value) (w : World) (h : NoGrove w v) : Calls Try.prog 13 #[v, .pointer none] w fun e w' => e = .returned (.slice none 0 0) ∧ w' = w := by
  have K := hid (ngMade v w h)
  go_enter Try.func13, Try.ntmps13
  go_wp2_with fail
  refine K.out.mono ?_
  rintro e w1 ⟨rfl, rfl⟩
  clear K
  go_wp2
  go_ret
  exact ⟨rfl, rfl⟩
set_option maxRecDepth 100000 in
theorem ngDrop (v : Value) (k : Int) (w : World) (h : NoGrove w v) : Calls Try.prog 10 #[v, .int .i64 k] w fun e w' => e = .returned (.bool false) ∧ Below w.heap.size w w' := by
  have K := hid (fun w h => ngAll v w h)
  have hh := hid h
  have h1 := hid (h.more (below_one w (.cells #[.bool false, .slice none 0 0, .int .i64 0, .int .i64 0, .int .i64 0, .int .i64 0, .int .i64 0, .int .i64 0, .int .i64 0, .int .i64 0, .int .i64 0] 29)))
  have D0 := hid (below_one w (.cells #[.bool false, .slice none 0 0, .int .i64 0, .int .i64 0, .int .i64 0, .int .i64 0, .int .i64 0, .int .i64 0, .int .i64 0, .int .i64 0, .int .i64 0] 29))
  clear h
  go_enter Try.func10, Try.ntmps10
  go_wp2_with fail
  refine (K.out _ hh.out).mono ?_
  rintro e w1 ⟨rfl, rfl⟩
  go_wp2_with fail
  refine (K.out _ h1.out).mono ?_
  rintro e w2 ⟨rfl, rfl⟩
  clear K
  go_wp2
  go_ret
  exact ⟨rfl, D0.out⟩
set_option maxRecDepth 100000 in
theorem ngPut (v : Value) (k : Int) (c : Array Value) (w : World) (h : NoGrove w v) : Calls Try.prog 8 #[v, .int .i64 k, .agg c] w fun e w' => e = .returned (.int .i64 9) ∧ Below w.heap.size w w' := by
  have h1 := h.more (below_one w (.cells c 29))
  have K := hid (ngMade v _ h1)
  have D0 := hid (below_one w (.cells c 29))
  clear h h1
  go_enter Try.func8, Try.ntmps8
  go_wp2_with fail
  refine K.out.mono ?_
  rintro e w1 ⟨rfl, rfl⟩
  clear K
  go_wp2
  go_ret
  exact ⟨rfl, D0.out⟩
end Go.Proofs.Ytghboanmiggcnaa
