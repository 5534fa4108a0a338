/-
  Package disk: fated: what waits, in order, each with its fate.
-/
import Derived.Test.YtpgibngohbohdaaDiskRead
import Derived.Test.YtpgibngohbohdaaRegionIn
import Derived.RangeFuncNested
import Derived.RangeFuncBox
import Derived.RangeFuncBound
import Derived.RangeFuncCalls
import Derived.RangeFuncLeaves
import Derived.Shelf.Abstract
import Derived.Shelf.RegionOpen
import Derived.WalkKit
import Derived.OwnWalkIn
import Derived.TacticsInMore
import Derived.LoopNIn
import Derived.LoopIn
import Derived.BigQuiet
namespace Go.Proofs.Ytpgibngohbohdaa
open Go.RowKit Go.Shelf
set_option linter.unusedVariables false
set_option linter.unusedSimpArgs false

attribute [local go_sem] Oper.semAt_some

theorem dgrown_of {w w' : World} (h : Below w.heap.size w w') : w.grownBy w' none := ⟨h.os, h.tape, h.output, h.size, fun k hk _ => h.block k hk⟩
/-- The first k of N. -/
def fk (N k : Nat) : List (Fin N) := (List.finRange N).take k
theorem fk_len (N k : Nat) (h : k ≤ N) : (fk N k).length = k := by simp [fk]; omega
theorem fk_succ (N k : Nat) (h : k < N) : fk N (k + 1) = fk N k ++ [⟨k, h⟩] := by
  unfold fk
  rw [List.take_add_one]
  simp [h]
theorem RowP.sole' {S : Nat → Prop} {w w' : World} {p : Option Addr} {sz n : Nat} {f : Nat → List Value} (h : RowP w p sz n f) (hs : Sole S w w') (hn : ∀ b o, p = some ⟨b, o, none⟩ → ¬ S b) : RowP w' p sz n f :=
  h.imp id fun ⟨b, o, e, r⟩ => ⟨b, o, e, Nat.lt_of_lt_of_le r.lt hs.size, fun i hi j v hv => (hs.cell r.lt (hn b o e)).trans (r.cell i hi j v hv)⟩
def wVal (y : WtS) : Value := .agg #[.int .i64 y.at_, .slice y.x.a y.x.l.length y.x.cap]

set_option maxRecDepth 100000 in
theorem fated_any (q : Option Addr) (a : Option Addr) (len cap : Nat) (w : World) :
    Calls Try.prog 92 #[.pointer q, .slice a len cap] w fun e w' => e = .returned (.func (.func 116) #[] #[.pointer (some ⟨w.heap.size, 0, none⟩), .pointer (some ⟨w.heap.size + 1, 0, none⟩)]) ∧ w' = (w.alloc (.cells #[.pointer q] 24)).alloc (.cells #[.slice a len cap] 29) := by
  go_enter Try.func92, Try.ntmps92
  go_wp2
  go_ret
  exact ⟨by simp, rfl⟩

set_option maxRecDepth 100000 in
set_option maxHeartbeats 4000000 in
theorem fated1_in (fr : Nat) (hn : 1 ≤ fr) (l Bd Bf b : Nat) (wp fp : Option Addr) (wc fc : Nat) (Qs : List WtS) (Fs : List Int) (N : Nat) (hN : N = min Qs.length Fs.length) (hl1 : Qs.length ≤ maxLen) (hl2 : Fs.length ≤ maxLen) (T : Nat → Prop) (J Jx : List (Fin N) → World → Prop) (W : World) (hJ : AbidesFrom W.heap.size J)
    (hY : ∀ pre (x : Fin N) W1, J pre W1 → pre.length < N → YieldAt Fence.wide (fr - 1) Try.prog l #[wVal (atR wtT Qs x.val), .int .i64 (atR fatT Fs x.val)] W1 fun e W' => (e = .returned (.bool true) ∧ J (pre ++ [x]) W' ∧ Sole T W1 W') ∨ (e = .returned (.bool false) ∧ Jx (pre ++ [x]) W'))
    (hd : W.cell? ⟨Bd, 0, none⟩ = some (.pointer (some ⟨b, 0, none⟩))) (hw : W.cell? ⟨b, 3, none⟩ = some (.slice wp Qs.length wc)) (hf : W.cell? ⟨Bf, 0, none⟩ = some (.slice fp Fs.length fc)) (hTf : ¬ T Bf) (hBf : Bf < W.heap.size)
    (RQ : RowP W wp 2 Qs.length (fun i => [.int .i64 (atR wtT Qs i).at_, .slice (atR wtT Qs i).x.a (atR wtT Qs i).x.l.length (atR wtT Qs i).x.cap])) (hTQ : ∀ b o, wp = some ⟨b, o, none⟩ → Qs.length ≠ 0 → ¬ T b)
    (RF : RowP W fp 1 Fs.length (fun i => [.int .i64 (atR fatT Fs i)])) (hTF : ∀ b o, fp = some ⟨b, o, none⟩ → Fs.length ≠ 0 → ¬ T b) (h0 : J [] W) :
    CallsIn Fence.wide fr Try.prog 116 #[.func (.yield l) #[] #[], .pointer (some ⟨Bd, 0, none⟩), .pointer (some ⟨Bf, 0, none⟩)] W fun e W' => (∃ v, e = .returned v) ∧
      ((∃ ys, ys = fk N N ∧ J ys W') ∨ (∃ pre, (∃ k, k ≤ N ∧ pre = fk N k) ∧ Jx pre W')) := by
  have hro : Fence.wide.round = none := rfl
  replace hl1 := hid hl1
  replace hl2 := hid hl2
  replace RQ := hid RQ
  replace RF := hid RF
  refine callsIn_of_wp Try.func116 rfl trivial ?_ hro
  simp only [Try.ntmps116, List.size_toArray, List.length_cons, List.length_nil, Nat.reduceAdd, Nat.reduceSub, Array.replicate_succ, Array.replicate_zero, List.push_toArray, List.append_toArray, List.nil_append, List.cons_append]
  gi_wp2
  gi_loopw [11] (fun i wr => ∃ k : Nat, k ≤ N ∧ i = .int .i64 k ∧ J (fk N k) wr ∧ Sole T W wr)
    (fun i _ => Qs.length - (intOf i).toNat)
  case atStart => exact ⟨0, Nat.zero_le _, rfl, h0, Sole.refl _ _⟩
  case round =>
    obtain ⟨k, hk, rfl, hJs, hs⟩ := hrel
    by_cases hlt : k < Qs.length
    · have hlt' : (k : Int) < (Qs.length : Int) := by omega
      have RQ' : RowP wr wp 2 Qs.length _ := RQ.out.imp id fun ⟨b', o, e, r⟩ => ⟨b', o, e, Nat.lt_of_lt_of_le r.lt hs.size, fun i hi j v hv => (hs.cell r.lt (hTQ b' o e (by omega))).trans (r.cell i hi j v hv)⟩
      obtain ⟨bq, oq, rfl, rq⟩ := RQ'.row (by omega)
      have z0 : wr.cell? ⟨bq, oq + k * 2, none⟩ = some (.int .i64 (atR wtT Qs k).at_) := rq.at0 hlt rfl
      have z1 : wr.cell? ⟨bq, oq + k * 2 + 1, none⟩ = some (.slice (atR wtT Qs k).x.a (atR wtT Qs k).x.l.length (atR wtT Qs k).x.cap) := rq.at1 hlt rfl
      have hBw := hs.size
      have hl63 : (Qs.length : Int) ≤ 9223372036854775807 := by have := hl1.out; unfold maxLen at this; omega
      have HB := Blk.new wr #[.int .i64 (atR wtT Qs k).at_, .slice (atR wtT Qs k).x.a (atR wtT Qs k).x.l.length (atR wtT Qs k).x.cap] 118
      have hb1 : Below wr.heap.size wr (wr.alloc (.cells #[.int .i64 (atR wtT Qs k).at_, .slice (atR wtT Qs k).x.a (atR wtT Qs k).x.l.length (atR wtT Qs k).x.cap] 118)) := (Below.refl _ _).alloc (Nat.le_refl _) _
      have a0 : ∀ u : Later (wr.alloc (.cells #[.int .i64 (atR wtT Qs k).at_, .slice (atR wtT Qs k).x.a (atR wtT Qs k).x.l.length (atR wtT Qs k).x.cap] 118)), u.val.cell? ⟨Bf, 0, none⟩ = some (.slice fp Fs.length fc) := fun u =>
        (u.cell Bf 0 (Nat.lt_of_lt_of_le (Nat.lt_of_lt_of_le hBf hBw) hb1.size)).trans ((hb1.cell (p := ⟨Bf, 0, none⟩) (Nat.lt_of_lt_of_le hBf hBw)).trans ((hs.cell hBf hTf).trans hf))
      by_cases hfl : k < Fs.length
      · have hkN : k < N := by omega
        have RF' : RowP wr fp 1 Fs.length _ := RF.out.imp id fun ⟨b', o, e, r⟩ => ⟨b', o, e, Nat.lt_of_lt_of_le r.lt hs.size, fun i hi j v hv => (hs.cell r.lt (hTF b' o e (by omega))).trans (r.cell i hi j v hv)⟩
        obtain ⟨bf, of, rfl, rf⟩ := RF'.row (by omega)
        have y0 : wr.cell? ⟨bf, of + k * 1, none⟩ = some (.int .i64 (atR fatT Fs k)) := rf.at0 hfl rfl
        rw [Nat.mul_one] at y0
        have a1 : ∀ u : Later (wr.alloc (.cells #[.int .i64 (atR wtT Qs k).at_, .slice (atR wtT Qs k).x.a (atR wtT Qs k).x.l.length (atR wtT Qs k).x.cap] 118)), u.val.cell? ⟨bf, of + k, none⟩ = some (.int .i64 (atR fatT Fs k)) := fun u =>
          (u.cell bf (of + k) (by have := hb1.size; have := rf.lt; omega)).trans ((hb1.cell (p := ⟨bf, of + k, none⟩) rf.lt).trans y0)
        have hne : ((k : Int) == (Fs.length : Int)) = false := by simp; omega
        have hfl' : (k : Int) < (Fs.length : Int) := by omega
        have HJ := hid hJs
        have HH1 := hid hb1
        have HY := hid hY
        have HS := hid hs
        clear hJs hb1 hY hs y0 rf rq RQ RF RQ' RF'
        gi_wp2
        generalize hW1 : wr.alloc (.cells #[.int .i64 (atR wtT Qs k).at_, .slice (atR wtT Qs k).x.a (atR wtT Qs k).x.l.length (atR wtT Qs k).x.cap] 118) = W1 at *
        have q0 := fun u : Later W1 => u.blk HB
        refine wpIn_region_late 11 (by kernel_rfl) (by kernel_rfl) ?_
        simp only [List.take_succ_cons, List.take_zero, List.drop_succ_cons, List.drop_zero]
        iterate 11 (go_big_quiet_step (fail))
        refine wpQuiet_nil ?_
        intro w7 h7'
        have h7 := late_out h7'
        clear h7' q0 a0 a1
        have hbb : Below wr.heap.size wr w7 := HH1.out.trans (h7.mono HH1.out.size)
        have hJ7 : J (fk N k) w7 := hJ _ _ _ none HJ.out (dgrown_of hbb) (by simp)
        obtain ⟨fn, tmps, assign, body, hy, hRd⟩ := HY.out _ ⟨k, hkN⟩ w7 hJ7 (by rw [fk_len N k hk]; exact hkN)
        dsimp only [wVal] at hy
        gi_wp2
        refine hRd.mono ?_
        rintro e W3 (⟨rfl, hJ3, hk3⟩ | ⟨rfl, hJx3⟩)
        · have hs3 : Sole T W W3 := (HS.out.trans (Sole.made hbb)).trans hk3
          gi_wp2
          go_roundw
          case rel => exact ⟨k + 1, by omega, by simp, by rw [fk_succ N k hkN]; exact hJ3, hs3⟩
          case measure => simp [intOf]; omega
        · gi_wp2
          refine bodyPost_ret (results_none rfl _ _ _) rfl ?_
          exact ⟨⟨_, rfl⟩, .inr ⟨_, ⟨k + 1, by omega, (fk_succ N k hkN).symm⟩, hJx3⟩⟩
      · have hkf : k = Fs.length := by omega
        have hkN : k = N := by omega
        have heq : ((k : Int) == (Fs.length : Int)) = true := by simp; omega
        have HJ := hid hJs
        have HH1 := hid hb1
        clear hJs hb1 hY hs rq RQ RF RQ'
        have hkN' := hid hkN
        clear hkf hkN hN hfl
        gi_wp2
        generalize hW1 : wr.alloc (.cells #[.int .i64 (atR wtT Qs k).at_, .slice (atR wtT Qs k).x.a (atR wtT Qs k).x.l.length (atR wtT Qs k).x.cap] 118) = W1 at *
        have q0 := fun u : Later W1 => u.blk HB
        refine wpIn_region_late 11 (by kernel_rfl) (by kernel_rfl) ?_
        simp only [List.take_succ_cons, List.take_zero, List.drop_succ_cons, List.drop_zero]
        iterate 11 (go_big_quiet_step (fail))
        refine wpQuiet_nil ?_
        intro w7 h7'
        have h7 := late_out h7'
        clear h7' q0 a0
        have hbb : Below wr.heap.size wr w7 := HH1.out.trans (h7.mono HH1.out.size)
        have hJ7 : J (fk N k) w7 := hJ _ _ _ none HJ.out (dgrown_of hbb) (by simp)
        gi_wp2
        refine ⟨fun _ h => (by cases h), ?_⟩
        gi_wp2
        refine bodyPost_ret (results_none rfl _ _ _) rfl ?_
        refine ⟨⟨_, rfl⟩, .inl ⟨_, rfl, ?_⟩⟩
        have := hkN'.out
        subst this
        exact hJ7
    · obtain rfl : k = Qs.length := by omega
      have hNk : Qs.length = N := by omega
      rw [hNk] at hJs
      have hJs' := hid hJs
      have hlt' : ¬ ((Qs.length : Int) < (Qs.length : Int)) := by omega
      clear hJs hNk hN hlt
      gi_wp2
      go_end0
      first | exact ⟨⟨_, rfl⟩, .inl hJs'.out⟩ | exact .inl hJs'.out
end Go.Proofs.Ytpgibngohbohdaa
