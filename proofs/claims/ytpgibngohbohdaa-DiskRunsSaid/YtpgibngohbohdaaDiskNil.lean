/-
  Package disk: of a disk that nobody made.
-/
import Derived.Test.YtpgibngohbohdaaLay
import Derived.Test.YtpgibngohbohdaaChecked
import Derived.Test.YtpgibngohbohdaaBig
import Derived.Test.YtpgibngohbohdaaAidMore
import Derived.Test.YtpgibngohbohdaaRegion
import Derived.WalkSpells
import Derived.ChangeMaps5
import Derived.Lib.BufferMore
import Derived.Shelf.SlIterI.Nil
import Derived.Shelf.SortM.Plain
import Derived.Shelf.SortM.SortNone
namespace Go.Proofs.Ytpgibngohbohdaa
open Go.RowKit Go.Maps Go.Sort Go.Shelf
set_option linter.unusedVariables false
set_option linter.unusedSimpArgs false

/-- A disk that nobody made. -/
def NoDisk (w : World) (v : Value) : Prop := v = .pointer none ∨ ∃ p, v = .pointer (some ⟨p, 0, none⟩) ∧ Blk w p #[.bool false, .bool false, .slice none 0 0, .slice none 0 0, .map none, .map none, .bool false, .int .i64 0, .slice none 0 0, .bool false, .int .i64 0]
theorem NoDisk.more {w w' : World} {v : Value} (h : NoDisk w v) (hb : Below w.heap.size w w') : NoDisk w' v := h.imp id fun ⟨p, e, B⟩ => ⟨p, e, B.more hb⟩
theorem ndbelow_al {w w' : World} {o : Obj} (hb : Below (w.alloc o).heap.size (w.alloc o) w') : Below w.heap.size w w' := ((Below.refl _ _).alloc (Nat.le_refl _) o).trans (hb.mono (by simp))
set_option maxRecDepth 100000 in
theorem ndTrouble (v : Value) (w : World) (h : NoDisk w v) : Calls Try.prog 52 #[v] w fun e w' => e = .returned (.int .i64 9) ∧ w' = w := by
  rcases h with rfl | ⟨p, rfl, B⟩
  · go_enter Try.func52, Try.ntmps52
    go_wp2
    go_ret
    exact ⟨rfl, rfl⟩
  · obtain ⟨l0, k0, f0⟩ := B
    go_enter Try.func52, Try.ntmps52
    go_wp2
    go_ret
    exact ⟨rfl, rfl⟩
set_option maxRecDepth 100000 in
theorem ndCut (v : Value) (z : Int) (q : Option Addr) (n c : Nat) (w : World) (h : NoDisk w v) : Calls Try.prog 40 #[v, .int .i64 z, .slice q n c] w fun e w' => e = .returned (.tuple #[]) ∧ w' = w := by
  rcases h with rfl | ⟨p, rfl, B⟩
  · go_enter Try.func40, Try.ntmps40
    go_wp2
    first | (refine bodyPost_ret (results_none rfl _ _ _) rfl ?_) | (refine bodyPost_end (results_none rfl _ _ _) rfl ?_)
    exact ⟨rfl, rfl⟩
  · obtain ⟨l0, k0, f0⟩ := B
    go_enter Try.func40, Try.ntmps40
    go_wp2
    first | (refine bodyPost_ret (results_none rfl _ _ _) rfl ?_) | (refine bodyPost_end (results_none rfl _ _ _) rfl ?_)
    exact ⟨rfl, rfl⟩
set_option maxRecDepth 100000 in
theorem ndPower (v : Value) (q : Option Addr) (n c : Nat) (w : World) (h : NoDisk w v) : Calls Try.prog 32 #[v, .slice q n c] w fun e w' => e = .returned (.tuple #[]) ∧ w' = w := by
  rcases h with rfl | ⟨p, rfl, B⟩
  · go_enter Try.func32, Try.ntmps32
    go_wp2
    first | (refine bodyPost_ret (results_none rfl _ _ _) rfl ?_) | (refine bodyPost_end (results_none rfl _ _ _) rfl ?_)
    exact ⟨rfl, rfl⟩
  · obtain ⟨l0, k0, f0⟩ := B
    go_enter Try.func32, Try.ntmps32
    go_wp2
    first | (refine bodyPost_ret (results_none rfl _ _ _) rfl ?_) | (refine bodyPost_end (results_none rfl _ _ _) rfl ?_)
    exact ⟨rfl, rfl⟩
set_option maxRecDepth 100000 in
theorem ndFail (v : Value) (z : Int) (w : World) (h : NoDisk w v) : Calls Try.prog 24 #[v, .int .i64 z] w fun e w' => e = .returned (.tuple #[]) ∧ w' = w := by
  rcases h with rfl | ⟨p, rfl, B⟩
  · go_enter Try.func24, Try.ntmps24
    go_wp2
    first | (refine bodyPost_ret (results_none rfl _ _ _) rfl ?_) | (refine bodyPost_end (results_none rfl _ _ _) rfl ?_)
    exact ⟨rfl, rfl⟩
  · obtain ⟨l0, k0, f0⟩ := B
    go_enter Try.func24, Try.ntmps24
    go_wp2
    first | (refine bodyPost_ret (results_none rfl _ _ _) rfl ?_) | (refine bodyPost_end (results_none rfl _ _ _) rfl ?_)
    exact ⟨rfl, rfl⟩
set_option maxRecDepth 100000 in
theorem ndCount (v : Value) (w : World) (h : NoDisk w v) : Calls Try.prog 14 #[v] w fun e w' => e = .returned (.int .i64 0) ∧ w' = w := by
  rcases h with rfl | ⟨p, rfl, B⟩
  · go_enter Try.func14, Try.ntmps14
    go_wp2
    go_ret
    exact ⟨rfl, rfl⟩
  · obtain ⟨l0, k0, f0⟩ := B
    go_enter Try.func14, Try.ntmps14
    go_wp2
    go_ret
    exact ⟨rfl, rfl⟩
set_option maxRecDepth 100000 in
theorem ndWaits (v : Value) (w : World) (h : NoDisk w v) : Calls Try.prog 13 #[v] w fun e w' => e = .returned (.int .i64 0) ∧ w' = w := by
  rcases h with rfl | ⟨p, rfl, B⟩
  · go_enter Try.func13, Try.ntmps13
    go_wp2
    go_ret
    exact ⟨rfl, rfl⟩
  · obtain ⟨l0, k0, f0⟩ := B
    go_enter Try.func13, Try.ntmps13
    go_wp2
    go_ret
    exact ⟨rfl, rfl⟩
set_option maxRecDepth 100000 in
theorem ndRead (v : Value) (z : Int) (w : World) (h : NoDisk w v) : Calls Try.prog 33 #[v, .int .i64 z] w fun e w' => e = .returned (.tuple #[.slice none 0 0, .int .i64 9]) ∧ w' = w := by
  have K := hid (ndTrouble v w h)
  clear h
  go_enter Try.func33, Try.ntmps33
  go_wp2_with fail
  refine K.out.mono ?_
  rintro e w1 ⟨rfl, hw⟩
  rw [hw]
  clear hw w1 K
  go_wp2_with fail
  go_ret2
  exact ⟨rfl, rfl⟩
set_option maxRecDepth 100000 in
theorem ndWrite (v : Value) (z : Int) (q : Option Addr) (n c : Nat) (w : World) (h : NoDisk w v) : Calls Try.prog 23 #[v, .int .i64 z, .slice q n c] w fun e w' => e = .returned (.int .i64 9) ∧ w' = w := by
  have K := hid (ndTrouble v w h)
  clear h
  go_enter Try.func23, Try.ntmps23
  go_wp2_with fail
  refine K.out.mono ?_
  rintro e w1 ⟨rfl, hw⟩
  rw [hw]
  clear hw w1 K
  go_wp2_with fail
  go_ret
  exact ⟨rfl, rfl⟩
set_option maxRecDepth 100000 in
theorem ndFlush (v : Value) (w : World) (h : NoDisk w v) : Calls Try.prog 37 #[v] w fun e w' => e = .returned (.int .i64 9) ∧ w' = w := by
  have K := hid (ndTrouble v w h)
  clear h
  go_enter Try.func37, Try.ntmps37
  go_wp2_with fail
  refine K.out.mono ?_
  rintro e w1 ⟨rfl, hw⟩
  rw [hw]
  clear hw w1 K
  go_wp2_with fail
  go_ret
  exact ⟨rfl, rfl⟩
theorem ndsorts (m : Nat) : AnyZI.SortsIn Try.prog Try.sortedI_ren Fence.wide m :=
  ⟨fun blk off cap ss W hH hblk hsz => callsIn_wide.2 (AnyM.slices_Sort_int Try.sortI blk off cap ss W hH hblk hsz),
   fun p cap W => callsIn_wide.2 (AnyM.slices_Sort_int_none Try.sortI p cap W)⟩
set_option maxRecDepth 100000 in
set_option maxHeartbeats 1000000 in
theorem ndOdd (v : Value) (w : World) (h : NoDisk w v) : Calls Try.prog 12 #[v] w fun e w' => e = .returned (.slice none 0 0) ∧ Below w.heap.size w w' := by
  rcases h with rfl | ⟨p, rfl, B⟩
  · go_enter Try.func12, Try.ntmps12
    go_wp2_with fail
    go_ret
    exact ⟨rfl, Below.refl _ _⟩
  refine (callsIn_wide (n := 6)).1 ?_
  have hseq : SeqGives Fence.wide 2 Try.prog 72 #[.pointer (some ⟨w.heap.size, 0, none⟩)] encZ (fun ss : List Int => ss = []) 0 (w.alloc (.cells #[.map none] 81)) :=
    AnyZI.keys_gives_nil (ρ := Try.keysD_ren) { Try.keysD with } Fence.wide _ trivial rfl w.heap.size _ (by simp) (by simp)
  have cK : ∀ mb W, CallsIn Fence.wide 5 Try.prog 43 #[.map mb] W fun e w' => e = .returned (.func (.func 72) #[] #[.pointer (some ⟨W.heap.size, 0, none⟩)]) ∧ w' = W.alloc (.cells #[.map mb] 81) := fun mb W => AnyZI.keys_in Try.keysD Fence.wide 5 trivial rfl mb W
  have cS := AnyZI.sorted_in Try.sortedI Fence.wide 5 trivial trivial trivial trivial rfl (by omega) (ndsorts _) (enters_of Try.func71 (by kernel_rfl) rfl) 72 #[.pointer (some ⟨w.heap.size, 0, none⟩)] trivial (enters_of Try.func72 (by kernel_rfl) rfl) _ 0 (Nat.zero_le _) (by omega) _ hseq
  change CallsIn _ _ Try.prog 42 _ _ _ at cS
  have hfK : Fence.wide.fn 43 := trivial
  have hfS : Fence.wide.fn 42 := trivial
  obtain ⟨l0, k0, f0⟩ := B
  refine callsIn_of_wp Try.func12 rfl trivial ?_ rfl
  simp only [Try.ntmps12, List.size_toArray, List.length_cons, List.length_nil, Nat.reduceAdd, Nat.reduceSub, Array.replicate_succ, Array.replicate_zero, List.push_toArray, List.append_toArray, List.nil_append, List.cons_append]
  gi_wp2_with (first
    | (gi_at_call 43; refine (cK _ _).mono ?_; rintro e w' ⟨rfl, rfl⟩)
    | (gi_at_call 42; refine cS.mono ?_; rintro e w' ⟨v, ss, rfl, rfl, hrow, hnil, hb⟩; obtain rfl : v = .slice none 0 0 := hnil.2 rfl))
  go_ret
  exact ⟨rfl, ndbelow_al hb⟩
end Go.Proofs.Ytpgibngohbohdaa
