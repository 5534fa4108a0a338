/-
  DiskSure: its last region. (Written by wip/tools/gensuretail.py.)
-/
import Derived.Test.YtoadcbegbkcigaaDiskMore
import Derived.Test.YtoadcbegbkcigaaRegionWild
import Derived.BigQuiet
namespace Go.Proofs.Ytoadcbegbkcigaa
open Go.RowKit Go.Maps
set_option linter.unusedVariables false
set_option linter.unusedSimpArgs false

noncomputable def sureC : Code := ((Try.f4.body.bind (codeFrom' 10)).getD .skip)
/-- A full sector's octets. -/
def NewF (l : List UInt8) (v : Value) (w : World) : Prop := ∃ ra rc, v = .slice ra l.length rc ∧ Octs w ra l
theorem NewF.stable (l : List UInt8) (v : Value) : Stable (NewF l v) := fun w w' ⟨ra, rc, e, O⟩ hb => ⟨ra, rc, e, O.more hb⟩
set_option maxRecDepth 100000 in
set_option maxHeartbeats 8000000 in
theorem sureTail {R : Ending → World → Prop} (a : Int) (b : Nat) (w12 : World) (a6 : Option Addr) (c6 : Nat) (l : List UInt8) (hl : l.length = 256) (hO : Octs w12 a6 l)
    (KF : ∀ W, Below w12.heap.size w12 W → Calls Try.prog 16 #[.int .u8 a] W fun e w' => ∃ q c, e = .returned (.slice q 256 c) ∧ Octs w' q l ∧ Below W.heap.size W w')
    (KW : ∀ W, Below w12.heap.size w12 W → Calls Try.prog 13 #[.pointer (some ⟨b, 0, none⟩)] W fun e w' => e = .returned (.int .i64 0) ∧ w' = W)
    (hR : ∀ W, Below w12.heap.size w12 W → R (.returned (.bool true)) W) {u1 u2 u3 u4 u5 u6 u7 u8 u10 u14 u15 u16 u17 u18 u19 u20 u21 u22 u23 u24 u25 u26 u27 u28 u29 u30 u31 u32 u33 u34 u35 u36 u37 u38 u39 u40 u41 u42 u43 u44 u45 u46 u47 u48 u49 u50 u51 u52 u53 u54 u55 u56 : Value} :
    Code.wp Try.prog sureC (bodyPost Try.prog Try.f4 R) ⟨#[.int .u8 a, u1, u2, u3, u4, u5, u6, u7, u8, .pointer (some ⟨b, 0, none⟩), u10, .int .i64 20, .slice a6 256 c6, .int .i64 0, u14, u15, u16, u17, u18, u19, u20, u21, u22, u23, u24, u25, u26, u27, u28, u29, u30, u31, u32, u33, u34, u35, u36, u37, u38, u39, u40, u41, u42, u43, u44, u45, u46, u47, u48, u49, u50, u51, u52, u53, u54, u55, u56, undef, undef, undef, undef, undef, undef, undef, undef, undef, undef, undef, undef, undef, undef, undef, undef, undef, undef, undef], []⟩ w12 := by
  conv => arg 2; whnf
  have htt : ((textOf l).toList == (textOf l).toList) = true := by simp
  have hcq := hid (fun (W : World) (q : Option Addr) (c : Nat) (h : Octs W q l) => show (convert 35 9 (.slice q 256 c)).run Try.prog W = .ok (.string (textOf l)) W from by
    have := conv_octs h c
    rw [hl] at this
    exact this)
  replace hO := hid hO
  replace KF := hid KF
  replace KW := hid KW
  replace hR := hid hR
  replace hl := hid hl
  generalize textOf l = tx at *
  refine wp_seq_k (fun K6 hK6 => ?_)
  replace hK6 := hid hK6
  refine wp_region_late_wild 10 19 ?A (NewF l) ?hG (by kernel_rfl) (by kernel_rfl) (by kernel_rfl) (by decide) ?walk ?hc ?h2
  case hG => exact NewF.stable l
  case walk =>
    intro S hS hN
    have kx := fun u : LaterC w12 S => hcq.out u.val a6 c6 (hO.out.more u.h)
    simp only [List.take_succ_cons, List.take_zero, List.drop_succ_cons, List.drop_zero]
    iterate 10 (go_big_quiet_step (fail))
    refine wpQuiet_nil ?_
    rfl
  case hc =>
    refine ⟨_, 16, #[.int .u8 a], rfl, by simp, by kernel_rfl, fun w => by kernel_rfl, fun u => ?_⟩
    refine (KF.out _ u.h).mono ?_
    rintro e w6 ⟨q, c, rfl, hq, hb6⟩
    exact ⟨_, rfl, hb6, q, c, by rw [hl.out], hq⟩
  case h2 =>
    intro v hN
    obtain ⟨ra, rc, hv, _⟩ := (Classical.choice hN).s
    rw [hl.out] at hv
    subst hv
    have kr := fun u : LaterC w12 (NewF l (.slice ra 256 rc)) => hcq.out u.val ra rc (by
      obtain ⟨ra', rc', e, O⟩ := u.s
      simp only [Value.slice.injEq] at e
      obtain ⟨e1, _⟩ := e
      subst e1
      exact O)
    have kw := hid (fun u : LaterC w12 (NewF l (.slice ra 256 rc)) => KW.out u.val u.h)
    simp only [List.take_succ_cons, List.take_zero, List.drop_succ_cons, List.drop_zero, List.getElem?_toArray, List.getElem?_cons_succ, List.getElem?_cons_zero, Option.bind_some, Act.put, List.setIfInBounds_toArray, List.set_cons_succ, List.set_cons_zero]
    iterate 8 (go_big_quiet_step ((go_at_call 13; with_reducible exact latec_same (kw.out _))))
    refine wpQuiet_nil ?_
    rintro w7 ⟨u7, rfl⟩
    have h7 := u7.h
    generalize u7.val = w7 at *
    clear kr kw
    go_wp2_with fail
    refine hK6.out _ _ ?_
    go_wp2_with fail
    exact hR.out _ h7
end Go.Proofs.Ytoadcbegbkcigaa
