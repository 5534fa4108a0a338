/-
  poly.sides, anySide and On: whatever sides come, all of them in order; is a place on one of them?
-/
import Derived.Test.YtahdhgaoofpefaaRegionIn
import Derived.Test.YtahdhgaoofpefaaTrackMath
import Derived.RangeFuncNested
import Derived.RangeFuncBox
import Derived.RangeFuncBound
import Derived.RangeFuncCalls
import Derived.RangeFuncLeaves
import Derived.Shelf.Abstract
import Derived.Shelf.RegionOpen
import Derived.WalkKit
import Derived.OwnWalkIn
import Derived.TacticsInMore
import Derived.LoopNIn
import Derived.LoopIn
import Derived.BigQuiet
namespace Go.Proofs.Ytahdhgaoofpefaa
open Go.RowKit Go.Shelf
set_option linter.unusedVariables false
set_option linter.unusedSimpArgs false

attribute [local go_sem] Oper.semAt_some

theorem grown_of {w w' : World} (h : Below w.heap.size w w') : w.grownBy w' none := ⟨h.os, h.tape, h.output, h.size, fun k hk _ => h.block k hk⟩

set_option maxRecDepth 100000 in
set_option maxHeartbeats 4000000 in
theorem sides1_in (fr : Nat) (hn : 1 ≤ fr) (l Bs n₀ len cap : Nat) (p : Option Addr) (f : Nat → Pt) (h1 : len ≤ cap) (h2 : cap ≤ maxLen) (J Jx : List Nat → World → Prop) (W : World) (hJ : AbidesFrom W.heap.size J)
    (hY : ∀ pre x W1, J pre W1 → pre.length < len → YieldAt Fence.wide (fr - 1) Try.prog l #[pl (p2 (f x)), pl (p2 (f ((x + 1) % len)))] W1 fun e W' => (e = .returned (.bool true) ∧ J (pre ++ [x]) W' ∧ Below n₀ W1 W') ∨ (e = .returned (.bool false) ∧ Jx (pre ++ [x]) W'))
    (hBs : W.cell? ⟨Bs, 0, none⟩ = some (.slice p len cap)) (hBn : Bs < n₀) (hn0 : n₀ ≤ W.heap.size) (R0 : len = 0 ∨ ∃ b o, p = some ⟨b, o, none⟩ ∧ b < n₀ ∧ Row W b o 4 len (fun i => pcells (f i))) (h0 : J [] W) :
    CallsIn Fence.wide fr Try.prog 52 #[.func (.yield l) #[] #[], .pointer (some ⟨Bs, 0, none⟩)] W fun e W' => (∃ v, e = .returned v) ∧
      ((∃ ys, ys = List.range len ∧ J ys W') ∨ (∃ pre, (∃ k, k ≤ len ∧ pre = List.range k) ∧ Jx pre W')) := by
  have hro : Fence.wide.round = none := rfl
  refine callsIn_of_wp Try.func52 rfl trivial ?_ hro
  simp only [Try.ntmps52, List.size_toArray, List.length_cons, List.length_nil, Nat.reduceAdd, Nat.reduceSub, Array.replicate_succ, Array.replicate_zero, List.push_toArray, List.append_toArray, List.nil_append, List.cons_append]
  gi_wp2
  gi_loopw [7] (fun i wr => ∃ k : Nat, k ≤ len ∧ i = .int .i64 k ∧ J (List.range k) wr ∧ Below n₀ W wr)
    (fun i _ => len - (intOf i).toNat)
  case atStart => exact ⟨0, Nat.zero_le _, rfl, h0, Below.refl _ _⟩
  case round =>
    obtain ⟨k, hk, rfl, hJs, hnx⟩ := hrel
    by_cases hlt : k < len
    · obtain ⟨b, o, rfl, hb, R⟩ := R0.resolve_left (by omega)
      have hlt' : (k : Int) < (len : Int) := by omega
      have hR := R.below hnx hb
      have hB := (hnx.cell (p := ⟨Bs, 0, none⟩) hBn).trans hBs
      have hsz : n₀ ≤ wr.heap.size := Nat.le_trans hn0 hnx.size
      obtain ⟨m, hm⟩ : ∃ m, (k + 1) % len = m := ⟨_, rfl⟩
      have hm1 : m < len := by rw [← hm]; exact Nat.mod_lt _ (by omega)
      have hmi : Int.tmod ((k : Int) + 1) (len : Int) = (m : Int) := by rw [← hm]; rfl
      have hm1' : (m : Int) < (len : Int) := by omega
      have hl63 : (len : Int) ≤ 9223372036854775807 := by unfold maxLen at h2; omega
      have hl0 : (0 : Int) < (len : Int) := by omega
      have hl0' : ¬ (len : Int) = 0 := by omega
      have hl0'' : ((len : Int) == 0) = false := by simp; omega
      have hmw : IntKind.i64.wrap (Int.tmod ((k : Int) + 1) (len : Int)) = (m : Int) := by rw [hmi]; exact IntWalk.i64_in _ ⟨by omega, by omega⟩
      have z0 : wr.cell? ⟨b, o + k * 4, none⟩ = some (.int .i64 (f k).id) := hR.at0 hlt rfl
      have z1 : wr.cell? ⟨b, o + k * 4 + 1, none⟩ = some (.int .u32 (f k).x) := hR.at1 hlt rfl
      have z2 : wr.cell? ⟨b, o + k * 4 + 2, none⟩ = some (.int .u32 (f k).y) := hR.at2 hlt rfl
      have z3 : wr.cell? ⟨b, o + k * 4 + 3, none⟩ = some (.string (f k).d) := hR.at3 hlt rfl
      have y0 : wr.cell? ⟨b, o + m * 4, none⟩ = some (.int .i64 (f m).id) := hR.at0 hm1 rfl
      have y1 : wr.cell? ⟨b, o + m * 4 + 1, none⟩ = some (.int .u32 (f m).x) := hR.at1 hm1 rfl
      have y2 : wr.cell? ⟨b, o + m * 4 + 2, none⟩ = some (.int .u32 (f m).y) := hR.at2 hm1 rfl
      have y3 : wr.cell? ⟨b, o + m * 4 + 3, none⟩ = some (.string (f m).d) := hR.at3 hm1 rfl
      have HB := Blk.new wr #[.int .i64 (f k).id, .int .u32 (f k).x, .int .u32 (f k).y, .string (f k).d] 63
      have hb1 : Below wr.heap.size wr (wr.alloc (.cells #[.int .i64 (f k).id, .int .u32 (f k).x, .int .u32 (f k).y, .string (f k).d] 63)) := (Below.refl _ _).alloc (Nat.le_refl _) _
      have cc : ∀ (c oo : Nat) (v : Value), c < n₀ → wr.cell? ⟨c, oo, none⟩ = some v → ∀ u : Later (wr.alloc (.cells #[.int .i64 (f k).id, .int .u32 (f k).x, .int .u32 (f k).y, .string (f k).d] 63)), u.val.cell? ⟨c, oo, none⟩ = some v :=
        fun c oo v hc h u => (u.cell c oo (Nat.lt_of_lt_of_le (Nat.lt_of_lt_of_le hc hsz) hb1.size)).trans ((hb1.cell (p := ⟨c, oo, none⟩) (Nat.lt_of_lt_of_le hc hsz)).trans h)
      have a0 := cc Bs 0 _ hBn hB
      have x0 := cc b _ _ hb y0
      have x1 := cc b _ _ hb y1
      have x2 := cc b _ _ hb y2
      have x3 := cc b _ _ hb y3
      have KO1 : Hid (∀ w, Calls Try.prog 50 #[.agg #[.int .i64 (f k).id, .int .u32 (f k).x, .int .u32 (f k).y, .string (f k).d]] w fun e w' => e = .returned (pl (p2 (f k))) ∧ Below w.heap.size w w') := hid (fun w => of2 (f k).id (p2 (f k)) (.string (f k).d) w)
      have KO2 : Hid (∀ w, Calls Try.prog 50 #[.agg #[.int .i64 (f m).id, .int .u32 (f m).x, .int .u32 (f m).y, .string (f m).d]] w fun e w' => e = .returned (pl (p2 (f m))) ∧ Below w.heap.size w w') := hid (fun w => of2 (f m).id (p2 (f m)) (.string (f m).d) w)
      have HJ := hid hJs
      have HH1 := hid hb1
      have HY := hid hY
      have hnx' := hid hnx
      have hR' := hid hR
      clear cc y0 y1 y2 y3 hJs hb1 hY hnx hR
      gi_wp2
      generalize hW1 : wr.alloc (.cells #[.int .i64 (f k).id, .int .u32 (f k).x, .int .u32 (f k).y, .string (f k).d] 63) = W1 at *
      have q0 := fun u : Later W1 => u.blk HB
      refine wpIn_region_late 12 (by kernel_rfl) (by kernel_rfl) ?_
      simp only [List.take_succ_cons, List.take_zero, List.drop_succ_cons, List.drop_zero]
      iterate 12 (go_big_quiet_step ((go_at_call 50; first | (with_reducible exact late_call (KO1.out _)) | (with_reducible exact late_call (KO2.out _)))))
      refine wpQuiet_nil ?_
      intro w7 h7'
      have h7 := late_out h7'
      clear h7' q0 a0 x0 x1 x2 x3
      have hbb : Below wr.heap.size wr w7 := HH1.out.trans (h7.mono HH1.out.size)
      have hJ7 : J (List.range k) w7 := hJ _ _ _ none HJ.out (grown_of hbb) (by simp)
      obtain ⟨fn, tmps, assign, body, hy, hRd⟩ := HY.out _ k w7 hJ7 (by rw [List.length_range]; exact hlt)
      simp only [hm] at hy
      gi_wp2
      refine hRd.mono ?_
      rintro e W3 (⟨rfl, hJ3, hk3⟩ | ⟨rfl, hJx3⟩)
      · have hb3 : Below n₀ W W3 := (hnx'.out.trans (hbb.mono hsz)).trans hk3
        gi_wp2
        go_roundw
        case rel => exact ⟨k + 1, by omega, by simp, by rw [List.range_succ]; exact hJ3, hb3⟩
        case measure => simp [intOf]; omega
      · gi_wp2
        refine bodyPost_ret (results_none rfl _ _ _) rfl ?_
        exact ⟨⟨_, rfl⟩, .inr ⟨_, ⟨k + 1, by omega, (List.range_succ).symm⟩, hJx3⟩⟩
    · obtain rfl : k = len := by omega
      gi_wp2
      go_end0
      exact ⟨⟨_, rfl⟩, .inl ⟨_, rfl, hJs⟩⟩

theorem sides_any (a : Option Addr) (len cap : Nat) (w : World) :
    Calls Try.prog 44 #[.slice a len cap] w fun e w' => e = .returned (.func (.func 52) #[] #[.pointer (some ⟨w.heap.size, 0, none⟩)]) ∧ w' = w.alloc (.cells #[.slice a len cap] 60) := by
  go_enter Try.func44, Try.ntmps44
  go_wp2
  go_ret
  exact ⟨rfl, rfl⟩

/-- All sides come, in order; or some, where a round has said 'no more'. -/
theorem sides_stops (fr : Nat) (hn : 1 ≤ fr) (Bs n₀ len cap : Nat) (p : Option Addr) (f : Nat → Pt) (h1 : len ≤ cap) (h2 : cap ≤ maxLen) (w : World) (hBs : w.cell? ⟨Bs, 0, none⟩ = some (.slice p len cap)) (hBn : Bs < n₀) (hn0 : n₀ ≤ w.heap.size)
    (R0 : len = 0 ∨ ∃ b o, p = some ⟨b, o, none⟩ ∧ b < n₀ ∧ Row w b o 4 len (fun i => pcells (f i))) :
    SeqStopsK Fence.wide fr Try.prog 52 #[.pointer (some ⟨Bs, 0, none⟩)] (fun i : Nat => #[pl (p2 (f i)), pl (p2 (f ((i + 1) % len)))]) (Below n₀) (fun ys => ys = List.range len) (fun pre => ∃ k, k ≤ len ∧ pre = List.range k) len w := fun l J Jx W hW hJ _ hY h0 =>
  sides1_in fr hn l Bs n₀ len cap p f h1 h2 J Jx W hJ hY ((hW.cell (p := ⟨Bs, 0, none⟩) (Nat.lt_of_lt_of_le hBn hn0)).trans hBs) hBn (Nat.le_trans hn0 hW.size)
    (R0.imp id (fun ⟨b, o, e, hb, R⟩ => ⟨b, o, e, hb, R.more hW⟩)) h0

/-- poly.On's own question of one side. -/
theorem on1_any (a b q : P2) (ha : a.ok) (hb : b.ok) (hq : q.ok) (bx by' : Nat) (w : World) (hx : w.cell? ⟨bx, 0, none⟩ = some (.int .u32 q.x)) (hy : w.cell? ⟨by', 0, none⟩ = some (.int .u32 q.y)) :
    Calls Try.prog 42 #[pl a, pl b, .pointer (some ⟨bx, 0, none⟩), .pointer (some ⟨by', 0, none⟩)] w fun e w' => e = .returned (.bool (onB a b q)) ∧ Below w.heap.size w w' := by
  have KT := hid (fun w => on_any a b q ha hb hq w)
  generalize onB a b q = r at *
  obtain ⟨ax, ay⟩ := a
  obtain ⟨bx', by''⟩ := b
  obtain ⟨qx, qy⟩ := q
  simp only at *
  clear ha hb hq
  obtain ⟨B0, B1, H⟩ := @boxed2 w _ #[.int .u32 ax, .int .u32 ay] #[.int .u32 bx', .int .u32 by''] 82 82 (Below.refl _ _)
  have x0 := (H.cell (p := ⟨bx, 0, none⟩) (cell_lt hx)).trans hx
  have y0 := (H.cell (p := ⟨by', 0, none⟩) (cell_lt hy)).trans hy
  obtain ⟨l0, k0, f0⟩ := B0
  obtain ⟨l1, k1, f1⟩ := B1
  go_enter Try.func42, Try.ntmps42
  go_wp2_with fail
  refine (KT.out _).mono ?_
  rintro e w' ⟨rfl, hb⟩
  go_wp2_with fail
  go_ret
  exact ⟨rfl, H.trans (hb.mono H.size)⟩

/-- Two places in two blocks. -/
theorem heap_kept {X Y : World} {row : Option Nat} {b : Nat} {o : Obj} (h : X.heap[b]? = some o) (hc : o.isCells = true) (hg : X.grownBy Y row) (hr : ∀ r, row = some r → ∃ o : Obj, X.heap[r]? = some o ∧ o.isCells = false) : Y.heap[b]? = some o := by
  refine (hg.block b (Array.getElem?_eq_some_iff.1 h).1 (fun e => ?_)).trans h
  obtain ⟨o', ho, hc'⟩ := hr b e.symm
  rw [h] at ho
  cases ho
  rw [hc] at hc'
  cases hc'
def Boxed2 (W : World) (Ba Bb : Nat) (a b : P2) : Prop := W.heap[Ba]? = some (.cells #[.int .u32 a.x, .int .u32 a.y] 82) ∧ W.heap[Bb]? = some (.cells #[.int .u32 b.x, .int .u32 b.y] 82)

def anyAt (n : Nat) (c : Nat → Bool) : Bool := (List.range n).any c

set_option maxRecDepth 100000 in
set_option maxHeartbeats 4000000 in
theorem anySide_in (fr : Nat) (hn : 4 ≤ fr) (len cap : Nat) (p : Option Addr) (f : Nat → Pt) (h1 : len ≤ cap) (h2 : cap ≤ maxLen) (bx by' : Nat) (c : Nat → Bool) (w : World) (R0 : RowP w p 4 len (fun i => pcells (f i)))
    (KC : ∀ (i : Nat) (W : World), Below w.heap.size w W → Calls Try.prog 42 #[pl (p2 (f i)), pl (p2 (f ((i + 1) % len))), .pointer (some ⟨bx, 0, none⟩), .pointer (some ⟨by', 0, none⟩)] W fun e W' => e = .returned (.bool (c i)) ∧ Below W.heap.size W W') :
    CallsIn Fence.wide fr Try.prog 41 #[.slice p len cap, .func (.func 42) #[] #[.pointer (some ⟨bx, 0, none⟩), .pointer (some ⟨by', 0, none⟩)]] w fun e W' => e = .returned (.bool (anyAt len c)) ∧ Below w.heap.size w W' := by
  have h1n : 1 ≤ fr := by omega
  have hro : Fence.wide.round = none := rfl
  have KC' := hid KC
  have RW := hid R0
  clear KC R0
  refine callsIn_of_wp_marks Try.func41 rfl trivial ?_ hro
  simp only [Try.ntmps41, List.size_toArray, List.length_cons, List.length_nil, Nat.reduceAdd, Nat.reduceSub, Array.replicate_succ, Array.replicate_zero, List.push_toArray, List.append_toArray, List.nil_append, List.cons_append]
  gi_wp2_with (refine ⟨trivial, ?_⟩; gi_at_call 44; refine (callsIn_wide.2 (sides_any _ _ _ _)).mono ?_; rintro e w' ⟨rfl, rfl⟩)
  obtain ⟨FV, hFV⟩ : ∃ FV : Value, Value.func (Fn.func 42) #[] #[.pointer (some ⟨bx, 0, none⟩), .pointer (some ⟨by', 0, none⟩)] = FV := ⟨_, rfl⟩
  have bI := ((Boxed.new w 84 FV).alloc (.cells #[.bool false] 4)).alloc (.cells #[.slice p len cap] 60)
  have bR := (Boxed.new (w.alloc (.cells #[FV] 84)) 4 (.bool false)).alloc (.cells #[.slice p len cap] 60)
  have bS := Boxed.new ((w.alloc (.cells #[FV] 84)).alloc (.cells #[.bool false] 4)) 60 (.slice p len cap)
  simp only [World.size_alloc] at bR bS
  have hB0 : Below w.heap.size w (((w.alloc (.cells #[FV] 84)).alloc (.cells #[.bool false] 4)).alloc (.cells #[.slice p len cap] 60)) := (((Below.refl _ w).alloc (Nat.le_refl _) _).alloc (by simp) _).alloc (by simp; omega) _
  have hsz : (((w.alloc (.cells #[FV] 84)).alloc (.cells #[.bool false] 4)).alloc (.cells #[.slice p len cap] 60)).heap.size = w.heap.size + 3 := by simp
  rw [hFV]
  obtain ⟨W0, hW0⟩ : ∃ W0, ((w.alloc (.cells #[FV] 84)).alloc (.cells #[.bool false] 4)).alloc (.cells #[.slice p len cap] 60) = W0 := ⟨_, rfl⟩
  rw [hW0] at bI bR bS hB0 hsz ⊢
  clear hW0
  have RW0 := RW.out.more hB0
  have R3 : len = 0 ∨ ∃ b o, p = some ⟨b, o, none⟩ ∧ b < W0.heap.size ∧ Row W0 b o 4 len (fun i => pcells (f i)) := by
    rcases RW0 with h | ⟨b, o, e, h⟩
    · exact .inl h
    · exact .inr ⟨b, o, e, h.lt, h⟩
  refine wpIn_rangeFunc_ownH hro h1n (gf := 52) (lb := #[.pointer (some ⟨w.heap.size + 1 + 1, 0, none⟩)]) rfl trivial (enters_of Try.func52 (by kernel_rfl) rfl)
    (sides_stops (fr - 1) (by omega) (w.heap.size + 1 + 1) W0.heap.size len cap p f h1 h2 W0 bS.cell (by omega) (Nat.le_refl _) R3) belowK_t (belowK_b (Nat.le_refl _)) (Below.refl _ _) (fun _ => rfl)
    (fun pre W => (((∀ i ∈ pre, c i = false) ∧ Boxed W w.heap.size 84 FV) ∧ Boxed W (w.heap.size + 1) 4 (.bool false)) ∧ Below W0.heap.size W0 W)
    (fun cd pre W => (((cd = .ret ∧ ∃ i ∈ pre, c i = true)) ∧ Boxed W (w.heap.size + 1) 4 (.bool true)) ∧ Below w.heap.size w W)
    (OwnFrom.and (OwnFrom.and (OwnFrom.and (ownFrom_pure _ _) (Own.from (boxed_own _ _ _) _)) (Own.from (boxed_own _ _ _) _)) (ownFrom_below (Nat.le_refl _) (Nat.le_refl _)))
    (fun cd => OwnFrom.and (OwnFrom.and (ownFrom_pure _ _) (Own.from (boxed_own _ _ _) _)) (ownFrom_below (Nat.le_refl _) (by omega)))
    ⟨⟨⟨by simp, bI⟩, bR⟩, Below.refl _ _⟩
    (fun i a' W => ∃ Ba Bb, w.heap.size + 1 < Ba ∧ w.heap.size + 1 < Bb ∧ Boxed2 W Ba Bb (p2 (f i)) (p2 (f ((i + 1) % len))) ∧ a' = { tmps := #[.slice p len cap, FV, undef, .pointer (some ⟨w.heap.size, 0, none⟩), .pointer (some ⟨w.heap.size + 1, 0, none⟩), .pointer (some ⟨Ba, 0, none⟩), .pointer (some ⟨Bb, 0, none⟩), .slice p len cap, .func (.func 52) #[] #[.pointer (some ⟨w.heap.size + 1 + 1, 0, none⟩)], pl (p2 (f i)), pl (p2 (f ((i + 1) % len))), undef, undef, undef, undef], defers := [] })
    ?hAx ?assign ?body ?done ?stop
  case hAx =>
    rintro i a' _ X Y row ⟨Ba, Bb, h3, h4, ⟨h5, h6⟩, h7⟩ hg hr
    exact ⟨Ba, Bb, h3, h4, ⟨heap_kept h5 rfl hg (fun r e => (hr r e).2), heap_kept h6 rfl hg (fun r e => (hr r e).2)⟩, h7⟩
  case assign =>
    rintro l pre i W K ⟨⟨⟨hp, bI1⟩, bR1⟩, hB1⟩ hK
    gi_wp2
    have hs1 := hB1.size
    have hb2 : Below W.heap.size W ((W.alloc (.cells #[.int .u32 (p2 (f i)).x, .int .u32 (p2 (f i)).y] 82)).alloc (.cells #[.int .u32 (p2 (f ((i + 1) % len))).x, .int .u32 (p2 (f ((i + 1) % len))).y] 82)) :=
      ((Below.refl _ W).alloc (Nat.le_refl _) _).alloc (by simp) _
    refine hK _ _ (((KeepsOthers.alloc _ _).trans (KeepsOthers.alloc _ _)).from _) (hb2.mono hs1) ⟨⟨⟨hp, (bI1.alloc _).alloc _⟩, (bR1.alloc _).alloc _⟩, hB1.trans (hb2.mono hs1)⟩ ⟨W.heap.size, W.heap.size + 1, by omega, by omega, ⟨?_, ?_⟩, rfl⟩
    · exact (Below.heap_alloc _ _ _ (by simp)).trans (World.alloc_heap_new W _)
    · have := World.alloc_heap_new (W.alloc (.cells #[.int .u32 (p2 (f i)).x, .int .u32 (p2 (f i)).y] 82)) (.cells #[.int .u32 (p2 (f ((i + 1) % len))).x, .int .u32 (p2 (f ((i + 1) % len))).y] 82)
      rwa [World.size_alloc] at this
  case body =>
    rintro l pre i a' W hl ⟨r, hr⟩ ⟨⟨⟨hp, bI1⟩, bR1⟩, hB1⟩ ⟨Ba, Bb, h3, h4, ⟨h5, h6⟩, rfl⟩ hlt
    subst hFV
    have cI := bI1.cell
    have a0 : W.cell? ⟨Ba, 0, none⟩ = some (.int .u32 (p2 (f i)).x) := by simp [World.cell?, h5]
    have a1 : W.cell? ⟨Ba, 1, none⟩ = some (.int .u32 (p2 (f i)).y) := by simp [World.cell?, h5]
    have b0 : W.cell? ⟨Bb, 0, none⟩ = some (.int .u32 (p2 (f ((i + 1) % len))).x) := by simp [World.cell?, h6]
    have b1 : W.cell? ⟨Bb, 1, none⟩ = some (.int .u32 (p2 (f ((i + 1) % len))).y) := by simp [World.cell?, h6]
    have hbw : Below w.heap.size w W := hB0.trans (hB1.mono hB0.size)
    have KI := hid (KC'.out i W hbw)
    have HP := hid hp
    have HB1 := hid hB1
    have HR1 := hid bR1
    have HI1 := hid bI1
    have hs1 := hB1.size
    clear hp hB1 bR1 bI1 hr h5 h6
    cases hci : c i
    all_goals
      rw [hci] at KI
      gi_wp2_with (refine ⟨trivial, fun h => (by cases h), ?_⟩; gi_at_call 42; refine (CallsIn.inRound l (callsIn_wide.2 KI.out)).mono ?_; rintro e w' ⟨rfl, hb⟩; have hcr := (hb.cell (p := ⟨w.heap.size + 1, 0, none⟩) HR1.out.lt).trans HR1.out.cell; have hfr := (HR1.out.kept (grown_of hb) (by simp)).frozen; have HBB := hid hb)
      have hg := grown_of HBB.out
    · have kept : ∀ {B : Nat} {v : Value} {t : TypeId}, Boxed W B t v → Boxed _ B t v := fun h => h.kept hg (by simp)
      exact ⟨KeepsFrom.of_grownBy hg (fun j e => by cases e), HBB.out.mono hs1, ⟨⟨fun j hj => by rcases List.mem_append.1 hj with h | h; exact HP.out j h; simp at h; rw [h]; exact hci, kept HI1.out⟩, kept HR1.out⟩, HB1.out.trans (HBB.out.mono hs1)⟩
    · have kept := HR1.out.kept hg (by simp)
      refine ⟨(KeepsFrom.of_grownBy hg (fun j e => by cases e)).trans ((KeepsOthers.setCell _ _ _).from _), ⟨⟨rfl, i, by simp, hci⟩, kept.set _⟩, ?_⟩
      exact (hbw.trans (HBB.out.mono hbw.size)).setCell (p := ⟨w.heap.size + 1, 0, none⟩) (by simp) _
  case done =>
    rintro D zs W hD rfl ⟨⟨⟨hp, bI1⟩, bR1⟩, hB1⟩ hK
    have hcr := bR1.cell
    have hfr := bR1.frozen
    gi_wp2
    have hK' := (KeepsOthers.setCell W ⟨w.heap.size + 1, 0, none⟩ (.bool false)).same D _ hK rfl
    refine ⟨by simp, .inl ⟨_, _, rfl, run_takeDeferred hK', ?_⟩⟩
    have hc5 := cell_kept (World.cell?_setCell_same' W ⟨w.heap.size + 1, 0, none⟩ (.bool false) (by rw [hcr]; rfl)) (grownBy_putObj' _ D (.deferred none)) (fun r e => by cases e; exact ⟨_, hK', rfl⟩)
    have hbw : Below w.heap.size w W := hB0.trans (hB1.mono hB0.size)
    have hany : anyAt len c = false := by unfold anyAt; rw [List.any_eq_false]; intro i hi; rw [hp i hi]; simp
    refine ⟨.bool false, ?_, by rw [hany], (hbw.setCell (p := ⟨w.heap.size + 1, 0, none⟩) (by simp) _).trans (belowK_b (w := w) (Nat.le_refl _) _ D _ _ (by omega) hK' rfl rfl)⟩
    simp [results, Try.f41, go_sem, hc5]
  case stop =>
    rintro D cd pre W hD hpre ⟨⟨⟨rfl, i, hi, hci⟩, bR1⟩, hB1⟩ hK
    obtain ⟨k, hk, rfl⟩ := hpre
    have hcr := bR1.cell
    gi_wp2
    refine ⟨by simp, .inl ⟨_, _, rfl, run_takeDeferred hK, ?_⟩⟩
    have hc5 := cell_kept hcr (grownBy_putObj' _ D (.deferred none)) (fun r e => by cases e; exact ⟨_, hK, rfl⟩)
    have hany : anyAt len c = true := by
      unfold anyAt; rw [List.any_eq_true]
      exact ⟨i, by rw [List.mem_range] at hi ⊢; omega, hci⟩
    refine ⟨.bool true, ?_, by rw [hany], hB1.trans (belowK_b (w := w) (Nat.le_refl _) W D _ _ (by omega) hK rfl rfl)⟩
    simp [results, Try.f41, go_sem, hc5]
end Go.Proofs.Ytahdhgaoofpefaa
