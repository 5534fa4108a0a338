/-
  slices.Concat of two rows of octets.
-/
import Derived.Test.YtpgibngohbohdaaOcRow
import Derived.Test.YtpgibngohbohdaaOctAppend
import Derived.Test.YtpgibngohbohdaaAidMore
import Derived.Test.YtpgibngohbohdaaBig
import Derived.WalkKit
import Derived.OwnWalk
namespace Go.Proofs.Ytpgibngohbohdaa
open Go.RowKit
set_option linter.unusedVariables false
set_option linter.unusedSimpArgs false

set_option maxRecDepth 100000 in
theorem bgrow_any (n : Nat) (h1 : 1 ≤ n) (hn : n ≤ 1000000) (w : World) :
    Calls Try.prog 117 #[.slice none 0 0, .int .i64 (n : Int)] w fun e w' => ∃ q cap, e = .returned (.slice q 0 cap) ∧ w'.ownsRow w.heap.size 5 1 (.slice q 0 cap) 0 [] ∧ Below w.heap.size w w' := by
  obtain ⟨v', w', hr, O', gr, mv⟩ := append_zeros_own w.heap.size 35 w (.slice none 0 0) 0 [] (World.ownsRow_nil _ _ _ _) n (by omega) (Nat.le_refl _)
  rw [Nat.zero_add, List.nil_append] at O'
  obtain ⟨g, cap, cur, rfl, hbg, hlc, hcm, B, hcs, _⟩ := own_blk O' (by omega)
  have OE : w'.ownsRow w.heap.size 5 1 (.slice (some ⟨g, 0, none⟩) 0 cap) 0 [] := by
    rcases O'.2 with ⟨hv, _⟩ | ⟨g', cap', cur', hv, h1', h2', h3', h4', h5', h6'⟩
    · cases hv
    · simp only [Value.slice.injEq, Option.some.injEq, Addr.mk.injEq, and_true, true_and] at hv
      obtain ⟨rfl, rfl⟩ := hv
      exact ⟨rfl, .inr ⟨g, cap, cur', rfl, h1', h2', Nat.zero_le _, h4', h5', by simp⟩⟩
  have E := hid (show w'.ownsRow w.heap.size 5 1 (.slice (some ⟨g, 0, none⟩) 0 cap) 0 [] ∧ Below w.heap.size w w' from ⟨OE, (Below.refl _ _).grown gr (Nat.le_refl _) (fun k e => by cases e)⟩)
  have hn0 : ¬ ((n : Int) < 0) := by omega
  have hn1 : (0 : Int) < (n : Int) := by omega
  have hw : IntKind.i64.wrap ((n : Int) - 0) = (n : Int) := by rw [Int.sub_zero]; exact IntWalk.i64_in _ ⟨by omega, by omega⟩
  have hnn : wrap64 (n : Int) = (n : Int) := IntWalk.wrap64_in _ ⟨by omega, by omega⟩
  clear O' gr mv OE B hcs
  go_enter Try.func117, Try.ntmps117
  go_wp2_with (at_builtin; refine Lib.wpList_append_run _ rfl _ _ _ _ rfl _ _ rfl rfl _ _ hr ?_)
  go_ret
  exact ⟨_, _, rfl, E.out⟩

set_option maxRecDepth 100000 in
set_option maxHeartbeats 2000000 in
/-- Two rows of octets, together: new ones. -/
theorem bconcat_any (x y : OcS) (n : Nat) (hn : x.l.length + y.l.length = n) (h1 : 1 ≤ n) (hn2 : n ≤ 1000000) (g : Nat) (w : World) (hx : x.there w) (hy : y.there w) (B : Blk w g #[.slice x.a x.l.length x.cap, .slice y.a y.l.length y.cap]) :
    Calls Try.prog 93 #[.slice (some ⟨g, 0, none⟩) 2 2] w fun e w' => ∃ q cap, e = .returned (.slice q n cap) ∧ w'.ownsRow w.heap.size 5 1 (.slice q n cap) n (Lib.byteCells (x.l ++ y.l)) ∧ Below w.heap.size w w' := by
  have KG := hid (bgrow_any n h1 hn2)
  have hw1 : wrap64 (x.l.length : Int) = (x.l.length : Int) := IntWalk.wrap64_in _ ⟨by omega, by omega⟩
  have hw2 : wrap64 ((x.l.length : Int) + (y.l.length : Int)) = (n : Int) := by rw [IntWalk.wrap64_in _ ⟨by omega, by omega⟩]; omega
  have hneg1 : ¬ ((x.l.length : Int) < 0) := by omega
  have hneg2 : ¬ ((n : Int) < 0) := by omega
  have hxh := hid hx
  have hyh := hid hy
  have Bh := hid B
  have hnh := hid hn
  obtain ⟨l0, k0, f0⟩ := B
  clear hx hy hn
  generalize hlx : x.l.length = lx at *
  generalize hly : y.l.length = ly at *
  replace hlx := hid hlx
  replace hly := hid hly
  go_enter Try.func93, Try.ntmps93
  go_wp2_with fail
  refine wp_loop_rounds 3 ?_
  rw [rounds_succ]
  go_wp2_with fail
  rw [rounds_succ]
  go_wp2_with fail
  rw [rounds_succ]
  go_wp2_with fail
  refine (KG.out _).mono ?_
  rintro e w1 ⟨q, cap, rfl, O1, hb1⟩
  have hown1 := O1.lt
  obtain ⟨v2, w2, hr2, O2, gr2, mv2⟩ := append_octs w.heap.size 35 w1 (.slice q 0 cap) 0 [] O1 x.a x.cap x.l (hxh.out.more hb1).1 (by have := hlx.out; have := hnh.out; omega) hb1.size
  have S2 : Sole (fun k => (Value.slice q 0 cap).ownBlock = some k) w1 w2 := Sole.grown gr2 fun k e => e
  have B1 := Bh.out.more hb1
  have B2 := B1.sole S2 (fun e => by have := (hown1 g e).1; omega)
  have hy2 : Octs w2 y.a y.l := (hyh.out.more hb1).1.sole S2 fun b o e hne hS => by
    obtain ⟨b', o', e', hlt, _⟩ := hyh.out.1.row hne
    rw [e] at e'; cases e'
    have := (hown1 b hS).1; omega
  have hb2 : Below w.heap.size w w2 := hb1.trans (S2.below (B := w.heap.size) hb1.size fun k e => (hown1 k e).1)
  rw [Nat.zero_add, List.nil_append, hlx.out] at O2
  rw [hlx.out] at hr2
  obtain ⟨q2, c2, rfl⟩ : ∃ q2 c2, v2 = .slice q2 lx c2 := by
    rcases O2.2 with ⟨rfl, h0⟩ | ⟨g', cap', cur, rfl, _⟩
    · exact ⟨none, 0, by rw [h0]⟩
    · exact ⟨_, _, rfl⟩
  have hown2 := O2.lt
  obtain ⟨v3, w3, hr3, O3, gr3, mv3⟩ := append_octs w.heap.size 35 w2 (.slice q2 lx c2) lx _ O2 y.a y.cap y.l hy2 (by have := hly.out; have := hnh.out; omega) hb2.size
  have S3 : Sole (fun k => (Value.slice q2 lx c2).ownBlock = some k) w2 w3 := Sole.grown gr3 fun k e => e
  have hb3 : Below w.heap.size w w3 := hb2.trans (S3.below (B := w.heap.size) hb2.size fun k e => (hown2 k e).1)
  rw [hly.out, hnh.out] at O3
  rw [hly.out] at hr3
  obtain ⟨q3, c3, rfl⟩ : ∃ q3 c3, v3 = .slice q3 n c3 := by
    rcases O3.2 with ⟨rfl, h0⟩ | ⟨g', cap', cur, rfl, _⟩
    · exact ⟨none, 0, by rw [h0]⟩
    · exact ⟨_, _, rfl⟩
  have E := hid (show w3.ownsRow w.heap.size 5 1 (.slice q3 n c3) n (Lib.byteCells (x.l ++ y.l)) ∧ Below w.heap.size w w3 from ⟨by
    have : Lib.byteCells (x.l ++ y.l) = Lib.byteCells x.l ++ Lib.byteCells y.l := by simp [Lib.byteCells]
    rw [this]; exact O3, hb3⟩)
  obtain ⟨l1, k1, f1⟩ := B1
  obtain ⟨l2, k2, f2⟩ := B2
  clear O1 O2 O3 gr2 gr3 mv2 mv3 S2 S3 hb1 hb2 hb3 hy2 hown1 hown2 l0 k0 f0 KG
  replace hr2 := hid hr2
  replace hr3 := hid hr3
  go_wp2_with fail
  refine wp_loop_rounds 3 ?_
  rw [rounds_succ]
  go_wp2_with (at_builtin; refine Lib.wpList_append_run _ rfl _ _ _ _ rfl _ _ rfl rfl _ _ hr2.out ?_)
  rw [rounds_succ]
  go_wp2_with (at_builtin; refine Lib.wpList_append_run _ rfl _ _ _ _ rfl _ _ rfl rfl _ _ hr3.out ?_)
  rw [rounds_succ]
  go_wp2_with fail
  go_ret
  exact ⟨_, _, rfl, E.out⟩
end Go.Proofs.Ytpgibngohbohdaa
