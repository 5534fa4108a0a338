/-
  poly.sides, where a round writes to a cell of its caller's.
-/
import Derived.Test.YtahdhgaoofpefaaRegionIn
import Derived.Test.YtahdhgaoofpefaaPolySides
import Derived.RangeFuncNested
import Derived.RangeFuncBox
import Derived.RangeFuncBound
import Derived.RangeFuncCalls
import Derived.RangeFuncLeaves
import Derived.Shelf.Abstract
import Derived.Shelf.RegionOpen
import Derived.WalkKit
import Derived.OwnWalkIn
import Derived.TacticsInMore
import Derived.LoopNIn
import Derived.LoopIn
import Derived.BigQuiet
namespace Go.Proofs.Ytahdhgaoofpefaa
open Go.RowKit Go.Shelf
set_option linter.unusedVariables false
set_option linter.unusedSimpArgs false

attribute [local go_sem] Oper.semAt_some


theorem Row.sole {S : Nat → Prop} {w w' : World} {b o sz n : Nat} {f : Nat → List Value} (h : Row w b o sz n f) (hs : Sole S w w') (hn : ¬ S b) : Row w' b o sz n f :=
  ⟨Nat.lt_of_lt_of_le h.lt hs.size, fun i hi j v hv => (hs.cell h.lt hn).trans (h.cell i hi j v hv)⟩

set_option maxRecDepth 100000 in
set_option maxHeartbeats 4000000 in
theorem sides1_S (fr : Nat) (hn : 1 ≤ fr) (S : Nat → Prop) (l Bs len cap : Nat) (p : Option Addr) (f : Nat → Pt) (h1 : len ≤ cap) (h2 : cap ≤ maxLen) (J Jx : List Nat → World → Prop) (W : World) (hJ : AbidesFrom W.heap.size J)
    (hY : ∀ pre x W1, J pre W1 → pre.length < len → YieldAt Fence.wide (fr - 1) Try.prog l #[pl (p2 (f x)), pl (p2 (f ((x + 1) % len)))] W1 fun e W' => (e = .returned (.bool true) ∧ J (pre ++ [x]) W' ∧ Sole S W1 W') ∨ (e = .returned (.bool false) ∧ Jx (pre ++ [x]) W'))
    (hBs : W.cell? ⟨Bs, 0, none⟩ = some (.slice p len cap)) (hBn : ¬ S Bs) (R0 : len = 0 ∨ ∃ b o, p = some ⟨b, o, none⟩ ∧ ¬ S b ∧ Row W b o 4 len (fun i => pcells (f i))) (h0 : J [] W) :
    CallsIn Fence.wide fr Try.prog 52 #[.func (.yield l) #[] #[], .pointer (some ⟨Bs, 0, none⟩)] W fun e W' => (∃ v, e = .returned v) ∧
      ((∃ ys, ys = List.range len ∧ J ys W') ∨ (∃ pre, (∃ k, k ≤ len ∧ pre = List.range k) ∧ Jx pre W')) := by
  have hro : Fence.wide.round = none := rfl
  refine callsIn_of_wp Try.func52 rfl trivial ?_ hro
  simp only [Try.ntmps52, List.size_toArray, List.length_cons, List.length_nil, Nat.reduceAdd, Nat.reduceSub, Array.replicate_succ, Array.replicate_zero, List.push_toArray, List.append_toArray, List.nil_append, List.cons_append]
  gi_wp2
  gi_loopw [7] (fun i wr => ∃ k : Nat, k ≤ len ∧ i = .int .i64 k ∧ J (List.range k) wr ∧ Sole S W wr)
    (fun i _ => len - (intOf i).toNat)
  case atStart => exact ⟨0, Nat.zero_le _, rfl, h0, Sole.refl _ _⟩
  case round =>
    obtain ⟨k, hk, rfl, hJs, hnx⟩ := hrel
    by_cases hlt : k < len
    · obtain ⟨b, o, rfl, hb, R⟩ := R0.resolve_left (by omega)
      have hlt' : (k : Int) < (len : Int) := by omega
      have hR := R.sole hnx hb
      have hB := (hnx.cell (cell_lt hBs) hBn).trans hBs
      have hsz : W.heap.size ≤ wr.heap.size := hnx.size
      have hbW := R.lt
      obtain ⟨m, hm⟩ : ∃ m, (k + 1) % len = m := ⟨_, rfl⟩
      have hm1 : m < len := by rw [← hm]; exact Nat.mod_lt _ (by omega)
      have hmi : Int.tmod ((k : Int) + 1) (len : Int) = (m : Int) := by rw [← hm]; rfl
      have hm1' : (m : Int) < (len : Int) := by omega
      have hl63 : (len : Int) ≤ 9223372036854775807 := by unfold maxLen at h2; omega
      have hl0 : (0 : Int) < (len : Int) := by omega
      have hl0' : ¬ (len : Int) = 0 := by omega
      have hl0'' : ((len : Int) == 0) = false := by simp; omega
      have hmw : IntKind.i64.wrap (Int.tmod ((k : Int) + 1) (len : Int)) = (m : Int) := by rw [hmi]; exact IntWalk.i64_in _ ⟨by omega, by omega⟩
      have z0 : wr.cell? ⟨b, o + k * 4, none⟩ = some (.int .i64 (f k).id) := hR.at0 hlt rfl
      have z1 : wr.cell? ⟨b, o + k * 4 + 1, none⟩ = some (.int .u32 (f k).x) := hR.at1 hlt rfl
      have z2 : wr.cell? ⟨b, o + k * 4 + 2, none⟩ = some (.int .u32 (f k).y) := hR.at2 hlt rfl
      have z3 : wr.cell? ⟨b, o + k * 4 + 3, none⟩ = some (.string (f k).d) := hR.at3 hlt rfl
      have y0 : wr.cell? ⟨b, o + m * 4, none⟩ = some (.int .i64 (f m).id) := hR.at0 hm1 rfl
      have y1 : wr.cell? ⟨b, o + m * 4 + 1, none⟩ = some (.int .u32 (f m).x) := hR.at1 hm1 rfl
      have y2 : wr.cell? ⟨b, o + m * 4 + 2, none⟩ = some (.int .u32 (f m).y) := hR.at2 hm1 rfl
      have y3 : wr.cell? ⟨b, o + m * 4 + 3, none⟩ = some (.string (f m).d) := hR.at3 hm1 rfl
      have HB := Blk.new wr #[.int .i64 (f k).id, .int .u32 (f k).x, .int .u32 (f k).y, .string (f k).d] 63
      have hb1 : Below wr.heap.size wr (wr.alloc (.cells #[.int .i64 (f k).id, .int .u32 (f k).x, .int .u32 (f k).y, .string (f k).d] 63)) := (Below.refl _ _).alloc (Nat.le_refl _) _
      have cc : ∀ (c oo : Nat) (v : Value), c < W.heap.size → wr.cell? ⟨c, oo, none⟩ = some v → ∀ u : Later (wr.alloc (.cells #[.int .i64 (f k).id, .int .u32 (f k).x, .int .u32 (f k).y, .string (f k).d] 63)), u.val.cell? ⟨c, oo, none⟩ = some v :=
        fun c oo v hc h u => (u.cell c oo (Nat.lt_of_lt_of_le (Nat.lt_of_lt_of_le hc hsz) hb1.size)).trans ((hb1.cell (p := ⟨c, oo, none⟩) (Nat.lt_of_lt_of_le hc hsz)).trans h)
      have a0 := cc Bs 0 _ (cell_lt hBs) hB
      have x0 := cc b _ _ hbW y0
      have x1 := cc b _ _ hbW y1
      have x2 := cc b _ _ hbW y2
      have x3 := cc b _ _ hbW y3
      have KO1 : Hid (∀ w, Calls Try.prog 50 #[.agg #[.int .i64 (f k).id, .int .u32 (f k).x, .int .u32 (f k).y, .string (f k).d]] w fun e w' => e = .returned (pl (p2 (f k))) ∧ Below w.heap.size w w') := hid (fun w => of2 (f k).id (p2 (f k)) (.string (f k).d) w)
      have KO2 : Hid (∀ w, Calls Try.prog 50 #[.agg #[.int .i64 (f m).id, .int .u32 (f m).x, .int .u32 (f m).y, .string (f m).d]] w fun e w' => e = .returned (pl (p2 (f m))) ∧ Below w.heap.size w w') := hid (fun w => of2 (f m).id (p2 (f m)) (.string (f m).d) w)
      have HJ := hid hJs
      have HH1 := hid hb1
      have HY := hid hY
      have hnx' := hid hnx
      have hR' := hid hR
      clear cc y0 y1 y2 y3 hJs hb1 hY hnx hR
      gi_wp2
      generalize hW1 : wr.alloc (.cells #[.int .i64 (f k).id, .int .u32 (f k).x, .int .u32 (f k).y, .string (f k).d] 63) = W1 at *
      have q0 := fun u : Later W1 => u.blk HB
      refine wpIn_region_late 12 (by kernel_rfl) (by kernel_rfl) ?_
      simp only [List.take_succ_cons, List.take_zero, List.drop_succ_cons, List.drop_zero]
      iterate 12 (go_big_quiet_step ((go_at_call 50; first | (with_reducible exact late_call (KO1.out _)) | (with_reducible exact late_call (KO2.out _)))))
      refine wpQuiet_nil ?_
      intro w7 h7'
      have h7 := late_out h7'
      clear h7' q0 a0 x0 x1 x2 x3
      have hbb : Below wr.heap.size wr w7 := HH1.out.trans (h7.mono HH1.out.size)
      have hJ7 : J (List.range k) w7 := hJ _ _ _ none HJ.out (grown_of hbb) (by simp)
      obtain ⟨fn, tmps, assign, body, hy, hRd⟩ := HY.out _ k w7 hJ7 (by rw [List.length_range]; exact hlt)
      simp only [hm] at hy
      gi_wp2
      refine hRd.mono ?_
      rintro e W3 (⟨rfl, hJ3, hk3⟩ | ⟨rfl, hJx3⟩)
      · have hb3 : Sole S W W3 := (hnx'.out.trans (Sole.made hbb)).trans hk3
        gi_wp2
        go_roundw
        case rel => exact ⟨k + 1, by omega, by simp, by rw [List.range_succ]; exact hJ3, hb3⟩
        case measure => simp [intOf]; omega
      · gi_wp2
        refine bodyPost_ret (results_none rfl _ _ _) rfl ?_
        exact ⟨⟨_, rfl⟩, .inr ⟨_, ⟨k + 1, by omega, (List.range_succ).symm⟩, hJx3⟩⟩
    · obtain rfl : k = len := by omega
      gi_wp2
      go_end0
      exact ⟨⟨_, rfl⟩, .inl ⟨_, rfl, hJs⟩⟩

/-- All sides come, in order; or some, where a round has said 'no more'. -/
theorem sides_stopsS (fr : Nat) (hn : 1 ≤ fr) (S : Nat → Prop) (Bs len cap : Nat) (p : Option Addr) (f : Nat → Pt) (h1 : len ≤ cap) (h2 : cap ≤ maxLen) (w : World) (hBs : w.cell? ⟨Bs, 0, none⟩ = some (.slice p len cap)) (hBn : ¬ S Bs)
    (R0 : len = 0 ∨ ∃ b o, p = some ⟨b, o, none⟩ ∧ ¬ S b ∧ Row w b o 4 len (fun i => pcells (f i))) :
    SeqStopsK Fence.wide fr Try.prog 52 #[.pointer (some ⟨Bs, 0, none⟩)] (fun i : Nat => #[pl (p2 (f i)), pl (p2 (f ((i + 1) % len)))]) (Sole S) (fun ys => ys = List.range len) (fun pre => ∃ k, k ≤ len ∧ pre = List.range k) len w := fun l J Jx W hW hJ _ hY h0 =>
  sides1_S fr hn S l Bs len cap p f h1 h2 J Jx W hJ hY ((hW.cell (p := ⟨Bs, 0, none⟩) (cell_lt hBs)).trans hBs) hBn
    (R0.imp id (fun ⟨b, o, e, hb, R⟩ => ⟨b, o, e, hb, R.more hW⟩)) h0
end Go.Proofs.Ytahdhgaoofpefaa
