/-
  DiskRuns answers true for any number of sectors and any calls, and changes nothing that was there: whatever is called, and whatever the fates, what is read, what waits, and which sectors are odd, are as the page says. For every input, without a condition.
-/
import Derived.Test.YtpgibngohbohdaaRefDone
import Derived.Test.YtpgibngohbohdaaDiskFlush
import Derived.Test.YtpgibngohbohdaaRefWrite
import Derived.Test.YtpgibngohbohdaaDiskWr
import Derived.Test.YtpgibngohbohdaaDiskOdd
import Derived.Test.YtpgibngohbohdaaDiskMore
import Derived.Test.YtpgibngohbohdaaPtRow
import Derived.Deep.DeepCutAuto
import Derived.Test.YtpgibngohbohdaaFatesArg
import Derived.Test.YtpgibngohbohdaaOctArg
import Derived.Test.YtpgibngohbohdaaOpen
import Derived.SizedLaws
import Derived.Deep.Slices
import Derived.Test.YtpgibngohbohdaaDiskFull
import Derived.Test.YtpgibngohbohdaaRegionWild
import Derived.BigQuiet
import Derived.Test.YtpgibngohbohdaaDiskAlive
import Derived.Test.YtpgibngohbohdaaPlainInts
import Derived.Test.YtpgibngohbohdaaRegionOrder
import Derived.LoopTactic
import Derived.Test.YtpgibngohbohdaaLiftSized

/-
  The document's own disk: Flush: all is sure.
-/


namespace Go.Proofs.Ytpgibngohbohdaa
open Go.RowKit Go.Maps
set_option linter.unusedVariables false
set_option linter.unusedSimpArgs false

/-- The first k of those that wait become sure, wholly. -/
def rflush (Q : List WtS) (s : SD) (k : Nat) : SD := (List.range k).foldl (fun s i => stepD s (atR rwT Q i).at_ (atR rwT Q i).x.l 1) s
theorem rflush_succ (Q : List WtS) (s : SD) (k : Nat) : rflush Q s (k + 1) = stepD (rflush Q s k) (atR rwT Q k).at_ (atR rwT Q k).x.l 1 := by
  unfold rflush
  rw [List.range_succ, List.foldl_append, List.foldl_cons, List.foldl_nil]
def FluAt (m : RM) (J : Nat → Prop) (w : World) (k : Nat) (W : World) : Prop :=
  ∃ p0 c0 L p2 c2 O, Mid' w J W (m.sec p0 c0 L p2 c2 O) ∧ L.length = m.L.length ∧ (m.sec p0 c0 L p2 c2 O).sd = rflush m.Q m.sd k
set_option maxRecDepth 100000 in
set_option maxHeartbeats 1000000 in
theorem rflush_any (m : RM) (J : Nat → Prop) (w : World) (R : RefM w m J) (hFw : ∀ f ∈ m.F, f ≤ 9223372036854775807) (hc0 : 0 ≤ m.cut) (hc1 : m.cut ≤ 9223372036854775807) :
    Calls Try.prog 38 #[m.v] w fun e w' => ∃ p0 c0 L p2 c2 O m', L.length = m.L.length ∧ (m.sec p0 c0 L p2 c2 O).sd = rflush m.Q m.sd m.Q.length ∧ e = .returned m'.v ∧ RefM w' m' (JN J w w') ∧ Below w.heap.size w w' ∧ DoneD (m.sec p0 c0 L p2 c2 O).clean m' := by
  have hJ := hid R.jlt
  have hQ := R.lQ
  have M0 := Mid'.start w J m R
  have H0 := hid (show FluAt m J w 0 _ from ⟨m.p0, m.c0, m.L, m.p2, m.c2, m.O, M0, rfl, rfl⟩)
  obtain ⟨l1, m1, f1⟩ := M0.B
  obtain ⟨l2, m2, f2⟩ := M0.Z
  have hFwh := hid hFw
  have hch := hid (And.intro hc0 hc1)
  clear R M0 hFw hc0 hc1
  generalize hW0 : (w.alloc (.cells m.cells.toArray 31)).alloc (.cells rz 31) = W0 at *
  go_enter Try.func38, Try.ntmps38
  go_wp2_with fail
  clear hW0 l1 m1 f1 l2 m2 f2
  go_loopw [3] (fun i wr => ∃ k : Nat, k ≤ m.Q.length ∧ i = .int .i64 (k : Int) ∧ FluAt m J w k wr) (fun i _ => m.Q.length - (intOf i).toNat)
  case atStart => exact ⟨0, Nat.zero_le _, rfl, H0.out⟩
  case round =>
    obtain ⟨k, hk, rfl, ⟨p0, c0, L, p2, c2, O, M, hL, hsd⟩⟩ := hrel
    clear H0
    by_cases hlt : k < m.Q.length
    · have hlt' : (k : Int) < (m.Q.length : Int) := by omega
      obtain ⟨bq, oq, hqq, rq⟩ := RowP.row (show RowOf rwT wr m.p1 m.Q from M.R.Q) (by omega)
      have z0 : wr.cell? ⟨bq, oq + k * 2, none⟩ = some (.int .i64 (atR rwT m.Q k).at_) := rq.at0 hlt rfl
      have z1 : wr.cell? ⟨bq, oq + k * 2 + 1, none⟩ = some (.slice (atR rwT m.Q k).x.a (atR rwT m.Q k).x.l.length (atR rwT m.Q k).x.cap) := rq.at1 hlt rfl
      have hbq := rq.lt
      obtain ⟨i, hat, hi, hyt, hyl⟩ := RefM.wait M.R hlt
      have hsucc := hid (rflush_succ m.Q m.sd k)
      rw [← hsd, hat] at hsucc
      rw [hat] at z0
      have hi' := hid (show i < L.length from hi)
      have hlO := hid (show O.length = L.length from M.R.lO)
      generalize hyy : (atR rwT m.Q k).x = y at *
      have KP := hid (fun W (hb : Below wr.heap.size wr W) => rput_any (m.sec p0 c0 L p2 c2 O) _ W (M.more hb).R i hi y (hyt.more hb) hyl false)
      have PB : Blk wr w.heap.size (rdv p0 L.length c0 m.p1 m.Q.length m.c1 p2 O.length c2 m.off m.cut m.p5 m.F.length m.c5 m.fail).toArray := M.B
      rw [hqq] at PB
      have PBh := hid PB
      have Mh := hid M
      have hLh := hid hL
      obtain ⟨lp, mp, fp⟩ := PB
      have hkn := hid hlt
      clear M hL hsd rq hat hyy hyt hyl
      go_wp2_with fail
      have q0 := fun u : Later wr => u.blk PBh.out
      have q1 := fun u : Later wr => (u.cell bq (oq + k * 2) hbq).trans z0
      have q2 := fun u : Later wr => (u.cell bq (oq + k * 2 + 1) hbq).trans z1
      refine wp_region_late 13 (by kernel_rfl) (by kernel_rfl) ?_
      simp only [List.take_succ_cons, List.take_zero, List.drop_succ_cons, List.drop_zero]
      iterate 13 (go_big_quiet_step (fail))
      refine wpQuiet_nil ?_
      intro w3 h3'
      have h3 := late_out h3'
      have K3 := KP.out w3 h3
      simp only [RM.v, RM.cells, rdv] at K3
      rw [hqq] at K3
      have K3h := hid K3
      have M3 := hid (Mh.out.more h3)
      clear h3 h3' q0 q1 q2 z0 z1 hbq PBh lp mp fp KP Mh K3
      go_wp2_with fail
      refine K3h.out.mono ?_
      rintro e w5 ⟨q0, d0, q2, d2, y', hy', rfl, R5, hb5⟩
      have M5 := M3.out.stored hJ.out hb5 R5
      have hrel := hid (show FluAt m J w (k + 1) _ from ⟨q0, d0, L.set i y', q2, d2, O.set i false, M5, by rw [List.length_set]; exact hLh.out, by
        rw [hsucc.out]
        exact sd_step (m.sec p0 c0 L p2 c2 O) q0 d0 q2 d2 i (by show i < O.length; rw [hlO.out]; exact hi'.out) y' false y.l 1 (by omega) (by rw [hy']; rfl) (by rw [hy']; unfold oddL; rw [if_pos rfl])⟩)
      simp only [setAll, RM.cells, rdv, List.length_set, Nat.zero_add, Nat.reduceAdd] at hrel
      rw [hqq] at hrel
      obtain ⟨l5, m5, f5⟩ := M3.out.B.more hb5
      clear M5 R5 hb5 K3h
      simp only [List.length_set]
      go_wp2_with fail
      go_roundw
      case rel => exact ⟨k + 1, by have := hkn.out; omega, by simp, hrel.out⟩
      case measure => have := hkn.out; simp [intOf]; omega
    · obtain rfl : k = m.Q.length := by omega
      have hlt' : ¬ ((m.Q.length : Int) < (m.Q.length : Int)) := by omega
      have M2 := M.cell hJ.out 1 (.slice none 0 0) (m.sec p0 c0 L p2 c2 O).clean (by decide) (fun W' J' h => h.clean) (by simp [RM.cells, rdv])
      have KD := hid (rdone_any (m.sec p0 c0 L p2 c2 O).clean _ _ M2.R hFwh.out hch.out.1 hch.out.2)
      simp only [RM.v, RM.cells, rdv] at KD
      have M2h := hid M2
      have hLh := hid hL
      have hsdh := hid hsd
      have B0 := M.B
      have Z2 := M2.Z
      simp only [RM.cells, rdv] at B0
      obtain ⟨lp, mp, fp⟩ := B0
      obtain ⟨lz, mz, fz⟩ := Z2
      clear M M2 hL hsd hlt
      go_wp2_with fail
      refine KD.out.mono ?_
      rintro e w9 ⟨m', rfl, R9, hb9, hDD⟩
      have F := hid (M2h.out.pass hJ.out hb9 R9)
      have Z9 := M2h.out.Z.more hb9
      have hDDh := hid hDD
      clear hb9 R9 KD lp mp fp lz mz fz M2h hDD
      obtain ⟨lz, mz, fz⟩ := Z9
      go_wp2_with fail
      simp only [setAll, RM.cells, rdv, Nat.zero_add, Nat.reduceAdd] at F
      clear lz mz fz
      generalize World.setCell _ _ _ = W3 at *
      obtain ⟨l9, q9, f9⟩ := F.out.1
      refine bodyPost_ret (v := RM.v m') (by simp [results, Try.results38, go_sem, q9]) rfl ⟨p0, c0, L, p2, c2, O, m', hLh.out, hsdh.out, rfl, F.out.2.2, F.out.2.1, hDDh.out⟩
end Go.Proofs.Ytpgibngohbohdaa

/-
  The document's own disk: Read: what stands there.
-/

namespace Go.Proofs.Ytpgibngohbohdaa
open Go.RowKit Go.Maps
set_option linter.unusedVariables false
set_option linter.unusedSimpArgs false

/-- What stands in a sector. -/
def RM.cur (m : RM) (z : Int) : OcS := match lastI (m.Q.map (·.at_)) z with
  | some i => (atR rwT m.Q i).x
  | none => ocA m.L z.toNat
theorem last_step (Q : List WtS) (z : Int) (k : Nat) (hk : k < Q.length) : lastI ((Q.take (k + 1)).map (·.at_)) z = if (atR rwT Q k).at_ = z then some k else lastI ((Q.take k).map (·.at_)) z := by
  rw [List.take_add_one, List.getElem?_eq_getElem hk, Option.toList_some, List.map_append, List.map_cons, List.map_nil, lastI_snoc, List.length_map, List.length_take, atR_eq Q k hk, Nat.min_eq_left (Nat.le_of_lt hk)]
set_option maxRecDepth 100000 in
set_option maxHeartbeats 1000000 in
theorem rread_any (m : RM) (J : Nat → Prop) (w : World) (R : RefM w m J) (i : Nat) (hi : i < m.L.length) :
    Calls Try.prog 39 #[m.v, .int .i64 (i : Int)] w fun e w' => e = .returned (.slice (m.cur (i : Int)).a (m.cur (i : Int)).l.length (m.cur (i : Int)).cap) ∧ Below w.heap.size w w' := by
  have hb0 : Below w.heap.size w (w.alloc (.cells m.cells.toArray 31)) := rbelow_one _ _
  have B0 := Blk.new w m.cells.toArray 31
  have R0 := R.more hb0
  have hlQ := R.lQ
  have Bh := hid B0
  have Rh := hid R0
  have D0 := hid hb0
  simp only [RM.cells, rdv] at B0
  obtain ⟨l0, m0, f0⟩ := B0
  clear R R0 hb0
  generalize hW0 : w.alloc (.cells m.cells.toArray 31) = W0 at *
  have hwn : wrap64 ((m.Q.length : Int) - 1) = (m.Q.length : Int) - 1 := IntWalk.wrap64_in _ ⟨by omega, by omega⟩
  go_enter Try.func39, Try.ntmps39
  go_wp2_with fail
  clear hW0
  go_loopw [5] (fun v wr => ∃ k : Nat, k ≤ m.Q.length ∧ v = .int .i64 ((k : Int) - 1) ∧ wr = W0 ∧ lastI (m.Q.map (·.at_)) (i : Int) = lastI ((m.Q.take k).map (·.at_)) (i : Int)) (fun v _ => (intOf v + 1).toNat)
  case atStart => exact ⟨m.Q.length, Nat.le_refl _, rfl, rfl, by rw [List.take_length]⟩
  case round =>
    obtain ⟨k, hk, rfl, hwr, hl⟩ := hrel
    rw [hwr]
    clear hwr wr
    rcases k with _ | k
    · have h0 : ¬ ((((0 : Nat) : Int) - 1) ≥ 0) := by omega
      have h0' : decide ((((0 : Nat) : Int) - 1) ≥ 0) = false := decide_eq_false h0
      obtain ⟨b7, o7, hq7, r7⟩ := RowP.row (show RowOf ocT W0 m.p0 m.L from Rh.out.L) (by omega)
      have z7 : W0.cell? ⟨b7, o7 + i, none⟩ = some (.slice (ocA m.L i).a (ocA m.L i).l.length (ocA m.L i).cap) := by
        have := r7.at0 hi (v := .slice (ocA m.L i).a (ocA m.L i).l.length (ocA m.L i).cap) rfl
        simpa [ocT] using this
      have hc : Hid (m.cur (i : Int) = ocA m.L i) := hid (by
        unfold RM.cur
        rw [hl]
        rfl)
      clear hl r7
      rw [hq7] at m0
      go_wp2_with fail
      go_ret
      exact ⟨by rw [hc.out]; rfl, D0.out⟩
    · have ek : (((k + 1 : Nat) : Int) - 1) = (k : Int) := by omega
      rw [ek]
      have hkl : k < m.Q.length := by omega
      have hki : (k : Int) < (m.Q.length : Int) := by omega
      obtain ⟨bq, oq, hqq, rq⟩ := RowP.row (show RowOf rwT W0 m.p1 m.Q from Rh.out.Q) (by omega)
      have z0 : W0.cell? ⟨bq, oq + k * 2, none⟩ = some (.int .i64 (atR rwT m.Q k).at_) := rq.at0 hkl rfl
      have z1 : W0.cell? ⟨bq, oq + k * 2 + 1, none⟩ = some (.slice (atR rwT m.Q k).x.a (atR rwT m.Q k).x.l.length (atR rwT m.Q k).x.cap) := rq.at1 hkl rfl
      rw [hqq] at m0
      have hge : (k : Int) ≥ 0 := by omega
      rw [last_step m.Q (i : Int) k hkl] at hl
      clear rq ek
      by_cases hat : (atR rwT m.Q k).at_ = (i : Int)
      · have hat' : ((atR rwT m.Q k).at_ == (i : Int)) = true := by rw [hat]; simp
        rw [if_pos hat] at hl
        have hc : Hid (m.cur (i : Int) = (atR rwT m.Q k).x) := hid (by
          unfold RM.cur
          rw [hl])
        clear hl hat
        generalize atR rwT m.Q k = y at *
        go_wp2_with fail
        go_ret
        exact ⟨by rw [hc.out]; rfl, D0.out⟩
      · have hat' : ((atR rwT m.Q k).at_ == (i : Int)) = false := by rw [beq_eq_false_iff_ne]; exact hat
        rw [if_neg hat] at hl
        have hlh := hid hl
        have hwk : wrap64 ((k : Int) - 1) = (k : Int) - 1 := IntWalk.wrap64_in _ ⟨by omega, by omega⟩
        clear hl hat
        generalize atR rwT m.Q k = y at *
        go_wp2_with fail
        go_roundw
        case rel => exact ⟨k, by omega, rfl, trivial, hlh.out⟩
        case measure => simp [intOf]
end Go.Proofs.Ytpgibngohbohdaa

/-
  The disk and the document's own: what holds of both, as data.
-/





namespace Go.Proofs.Ytpgibngohbohdaa
open Go.RowKit Go.Maps
set_option linter.unusedVariables false
set_option linter.unusedSimpArgs false

def wd (y : WtS) : Int × List UInt8 := (y.at_, y.x.l)
/-- Two that hold the same. -/
structure EqS (s t : SD) : Prop where
  S : s.1 = t.1
  O : ∀ z : Int, (Lit.int .i64 z).wf = true → s.2 z = t.2 z
theorem EqS.step {s t : SD} (h : EqS s t) (z : Int) (l : List UInt8) (f : Int) : EqS (stepD s z l f) (stepD t z l f) := by
  obtain ⟨s1, s2⟩ := s
  obtain ⟨t1, t2⟩ := t
  obtain ⟨hS, hO⟩ := h
  dsimp only at hS hO
  subst hS
  unfold stepD
  split
  · refine ⟨rfl, fun y hy => ?_⟩
    dsimp only
    split
    · rw [hO y hy]
    · exact hO y hy
  · exact ⟨rfl, hO⟩
theorem at_wd {Q R : List WtS} (h : Q.map wd = R.map wd) (k : Nat) : (atR wtT Q k).at_ = (atR rwT R k).at_ ∧ (atR wtT Q k).x.l = (atR rwT R k).x.l := by
  have h1 : (Q[k]?).map wd = (R[k]?).map wd := by rw [← List.getElem?_map, ← List.getElem?_map, h]
  unfold atR
  cases hq : Q[k]? with
  | none =>
    cases hr : R[k]? with
    | none => exact ⟨rfl, rfl⟩
    | some y => rw [hq, hr] at h1; cases h1
  | some x =>
    cases hr : R[k]? with
    | none => rw [hq, hr] at h1; cases h1
    | some y =>
      rw [hq, hr] at h1
      simp only [Option.map_some, Option.some.injEq, wd, Prod.mk.injEq] at h1
      exact h1
theorem len_wd {Q R : List WtS} (h : Q.map wd = R.map wd) : Q.length = R.length := by
  have := congrArg List.length h
  simpa using this
theorem ats_wd {Q R : List WtS} (h : Q.map wd = R.map wd) : Q.map (·.at_) = R.map (·.at_) := by
  have := congrArg (List.map Prod.fst) h
  simpa [List.map_map, Function.comp_def, wd] using this
theorem rset_past (Q : List WtS) (Fs : List Int) (s : SD) (k : Nat) (h : Fs.length ≤ k) : ∀ d, rset Q Fs s (k + d) = rset Q Fs s k
  | 0 => rfl
  | d + 1 => by
    have : atR fatT Fs (k + d) = 0 := by
      unfold atR
      rw [List.getElem?_eq_none (by omega)]
      rfl
    rw [← Nat.add_assoc, rset_succ, this, stepD_low _ _ _ _ (by omega), rset_past Q Fs s k h d]
theorem settle_upto {Q R : List WtS} (h : Q.map wd = R.map wd) (Fs : List Int) {s t : SD} (e : EqS s t) (N : Nat) : ∀ k, k ≤ N → EqS (settleD Q Fs s (fk N k)) (rset R Fs t k)
  | 0, _ => e
  | k + 1, hk => by
    have ih := settle_upto h Fs e N k (by omega)
    rw [fk_succ N k (by omega), settleD_snoc, rset_succ]
    obtain ⟨h1, h2⟩ := at_wd h k
    show EqS (stepD _ (atR wtT Q k).at_ (atR wtT Q k).x.l (atR fatT Fs k)) _
    rw [h1, h2]
    exact ih.step _ _ _
theorem settle_eq {Q R : List WtS} (h : Q.map wd = R.map wd) (Fs : List Int) {s t : SD} (e : EqS s t) : EqS (settleD Q Fs s (fk (min Q.length Fs.length) (min Q.length Fs.length))) (rset R Fs t R.length) := by
  have h1 := settle_upto h Fs e (min Q.length Fs.length) _ (Nat.le_refl _)
  have hl := len_wd h
  by_cases hc : Fs.length ≤ Q.length
  · have e1 : min Q.length Fs.length = Fs.length := by omega
    rw [e1] at h1 ⊢
    have : R.length = Fs.length + (R.length - Fs.length) := by omega
    rw [this, rset_past R Fs t Fs.length (Nat.le_refl _)]
    exact h1
  · have e1 : min Q.length Fs.length = Q.length := by omega
    rw [e1] at h1 ⊢
    rw [← hl]
    exact h1
theorem flush_upto {Q R : List WtS} (h : Q.map wd = R.map wd) {s t : SD} (e : EqS s t) : ∀ k, k ≤ Q.length → EqS (flushD Q s k) (rflush R t k)
  | 0, _ => e
  | k + 1, hk => by
    have ih := flush_upto h e k (by omega)
    rw [flushD_succ Q s k (by omega), rflush_succ]
    obtain ⟨h1, h2⟩ := at_wd h k
    rw [h1, h2]
    exact ih.step _ _ _
theorem flush_eq {Q R : List WtS} (h : Q.map wd = R.map wd) {s t : SD} (e : EqS s t) : EqS (flushD Q s Q.length) (rflush R t R.length) := by
  have h1 := flush_upto h e Q.length (Nat.le_refl _)
  rw [len_wd h] at h1 ⊢
  exact h1

/-- Both are alike. -/
structure Sim (m : DM) (r : RM) : Prop where
  off : m.off = r.off
  S : EqS m.sd r.sd
  Q : m.Qs.map wd = r.Q.map wd
  cut : (r.cut = 0 ∧ m.tl = false) ∨ (m.off = false ∧ m.tl = true ∧ 0 < r.cut ∧ m.cl = r.cut ∧ m.Fs = r.F)
  fail : r.off = false → (m.tf = false ∧ r.fail = -1) ∨ (m.tf = true ∧ r.fail = max m.fl 0)
  c0 : 0 ≤ r.cut
  c1 : r.cut ≤ 9223372036854775807
  F : ∀ f ∈ r.F, f ≤ 9223372036854775807
  f1 : r.fail ≤ 9223372036854775807
theorem Sim.len {m : DM} {r : RM} (h : Sim m r) : m.Ls.length = r.L.length := by
  have := congrArg List.length h.S.S
  simpa [DM.sd, RM.sd] using this
theorem Sim.qlen {m : DM} {r : RM} (h : Sim m r) : m.Qs.length = r.Q.length := len_wd h.Q
theorem Sim.trb {m : DM} {r : RM} (h : Sim m r) : m.trb = bkB r.off r.fail := by
  unfold DM.trb bkB
  rw [h.off]
  cases ho : r.off with
  | true => rfl
  | false =>
    rcases h.fail ho with ⟨h1, h2⟩ | ⟨h1, h2⟩
    · rw [h1, h2]; rfl
    · rw [h1, Bool.false_or, Bool.true_and, Bool.false_or]
      congr 1
      apply propext
      omega
theorem wrap_down (x : Int) (h : 0 < x) (h1 : x ≤ 9223372036854775807) : wrap64 (x - 1) = x - 1 := IntWalk.wrap64_in _ ⟨by omega, by omega⟩
theorem Sim.after {m : DM} {r : RM} (h : Sim m r) : Sim m.after { r with fail := bkF r.off r.fail } := by
  refine ⟨h.off, h.S, h.Q, h.cut, fun ho => ?_, h.c0, h.c1, h.F, ?_⟩
  · have ho' : r.off = false := ho
    have hm : m.off = false := h.off.trans ho'
    show ((if m.off then m.tf else if m.tf && decide (m.fl ≤ 0) then false else m.tf) = false ∧ bkF r.off r.fail = -1) ∨ ((if m.off then m.tf else if m.tf && decide (m.fl ≤ 0) then false else m.tf) = true ∧ bkF r.off r.fail = max (if m.off then m.fl else if m.tf && decide (m.fl ≤ 0) then 0 else wrap64 (m.fl - 1)) 0)
    unfold bkF
    rw [hm, ho']
    rcases h.fail ho' with ⟨h1, h2⟩ | ⟨h1, h2⟩
    · left
      rw [h1, h2]
      exact ⟨rfl, rfl⟩
    · have hf := h.f1
      by_cases h0 : m.fl ≤ 0
      · left
        rw [h1, decide_eq_true h0]
        refine ⟨rfl, ?_⟩
        have : r.fail = 0 := by omega
        rw [this]; rfl
      · right
        rw [h1, decide_eq_false h0]
        refine ⟨rfl, ?_⟩
        simp only [Bool.and_false, Bool.false_eq_true, if_false]
        rw [wrap_down m.fl (by omega) (by omega), if_pos (by omega)]
        omega
  · show bkF r.off r.fail ≤ _
    have := h.f1
    unfold bkF
    split
    · exact this
    · split
      · omega
      · split
        · omega
        · exact this
/-- What settling has left of it. -/
def SetD (m : DM) (Fs : List Int) (L : List OcS) (DO : DataW Unit) (n' : Nat) : Prop :=
  EqS (L.map OcS.l, fun z => Maps.has DO (.int .i64 z)) (settleD m.Qs Fs m.sd (fk (min m.Qs.length Fs.length) (min m.Qs.length Fs.length))) ∧ n' ≤ m.n' + m.Qs.length
/-- What goAtZero leaves. -/
def Goz (m m' : DM) : Prop :=
  (¬ (m.tl = true ∧ m.cl ≤ 0) ∧ m' = m) ∨ ((m.tl = true ∧ m.cl ≤ 0) ∧ ∃ L DO n', m' = (m.moved L DO n').clean.gone ∧ SetD m m.Fs L DO n')
/-- How much of it there is. -/
def DM.few (m : DM) (k : Nat) : Prop := m.n ≤ k ∧ m.n' + m.Qs.length ≤ k
theorem Goz.few {m m' : DM} {k : Nat} (h : Goz m m') (f : m.few k) : m'.few k := by
  rcases h with ⟨_, rfl⟩ | ⟨_, L, DO, n', rfl, h1, h2⟩
  · exact f
  · exact ⟨Nat.zero_le _, Nat.le_trans h2 f.2⟩
theorem nil_q {α β : Type} (f : α → β) : ([] : List α).map f = ([] : List α).map f := rfl
/-- A call is counted, in both. -/
theorem Sim.counted {m m' : DM} {r r' : RM} (h : Sim m r) (ho : r.off = false) (G : Goz m.counted m') (D : DoneD r r') : Sim m' r' := by
  have hm : m.off = false := h.off.trans ho
  have hc1 := h.c1
  rcases h.cut with ⟨c, t⟩ | ⟨_, t, c, e, eF⟩
  · have hG : m' = m.counted := by
      rcases G with ⟨_, e⟩ | ⟨⟨e, _⟩, _⟩
      · exact e
      · have : m.tl = true := e
        rw [t] at this; cases this
    have hD : r' = r := by
      rcases D with ⟨_, e⟩ | ⟨e, _⟩ | ⟨e, _⟩
      · exact e
      · rw [c] at e; cases e
      · exact absurd c e
    subst hG hD
    exact ⟨h.off, h.S, h.Q, .inl ⟨c, t⟩, h.fail, h.c0, h.c1, h.F, h.f1⟩
  · have hcl : m.counted.cl = r.cut - 1 := by
      show wrap64 (m.cl - 1) = _
      rw [e, wrap_down _ c hc1]
    by_cases h1 : r.cut = 1
    · have hD : ∃ p0 c0 L p2 c2 O, r' = { (r.sec p0 c0 L p2 c2 O).clean with cut := 0, off := true } ∧ L.length = r.L.length ∧ (r.sec p0 c0 L p2 c2 O).sd = rset r.Q r.F r.sd r.Q.length := by
        rcases D with ⟨e, _⟩ | ⟨_, x⟩ | ⟨_, e, _⟩
        · omega
        · exact x
        · exact absurd h1 e
      have hG : ∃ L DO n', m' = (m.counted.moved L DO n').clean.gone ∧ SetD m.counted m.counted.Fs L DO n' := by
        rcases G with ⟨e, _⟩ | ⟨_, x⟩
        · exact absurd ⟨t, by rw [hcl]; omega⟩ e
        · exact x
      obtain ⟨L, DO, n', rfl, h2, h3⟩ := hG
      obtain ⟨p0, c0, L2, p2, c2, O2, rfl, h4, h5⟩ := hD
      have hE := settle_eq h.Q m.Fs h.S
      refine ⟨rfl, ?_, rfl, .inl ⟨rfl, rfl⟩, (fun e => by cases e), Int.le_refl _, (by show (0 : Int) ≤ 9223372036854775807; decide), h.F, h.f1⟩
      have h6 : EqS (L.map OcS.l, fun z => Maps.has DO (.int .i64 z)) (r.sec p0 c0 L2 p2 c2 O2).sd := by
        rw [h5, ← eF]
        exact ⟨h2.S.trans hE.S, fun z hz => (h2.O z hz).trans (hE.O z hz)⟩
      exact h6
    · have hD : r' = { r with cut := r.cut - 1 } := by
        rcases D with ⟨e, _⟩ | ⟨e, _⟩ | ⟨_, _, e⟩
        · omega
        · exact absurd e h1
        · exact e
      have hG : m' = m.counted := by
        rcases G with ⟨_, e⟩ | ⟨⟨_, e⟩, _⟩
        · exact e
        · rw [hcl] at e; omega
      subst hD hG
      exact ⟨h.off, h.S, h.Q, .inr ⟨hm, t, by show 0 < r.cut - 1; omega, hcl, eF⟩, h.fail, by show 0 ≤ r.cut - 1; omega, by show r.cut - 1 ≤ _; omega, h.F, h.f1⟩
/-- A write waits, in both. -/
theorem Sim.wrote {m : DM} {r : RM} (h : Sim m r) (z : Int) (y y2 : OcS) (hy : y.l = y2.l) (q : Option Addr) (c : Nat) (p1 : Option Addr) (c1 : Nat) : Sim (m.wrote z y q c) (r.wait p1 c1 ⟨z, y2⟩) := by
  refine ⟨h.off, h.S, ?_, h.cut, h.fail, h.c0, h.c1, h.F, h.f1⟩
  show (m.Qs ++ [(⟨z, y⟩ : WtS)]).map wd = (r.Q ++ [(⟨z, y2⟩ : WtS)]).map wd
  rw [List.map_append, List.map_append, h.Q]
  simp [wd, hy]
/-- All that waits is settled, in both. -/
theorem Sim.settled {m : DM} {r : RM} (h : Sim m r) (Fs : List Int) {L : List OcS} {DO : DataW Unit} {n' : Nat} (H : SetD m Fs L DO n') {p0 : Option Addr} {c0 : Nat} {L2 : List OcS} {p2 : Option Addr} {c2 : Nat} {O2 : List Bool} (hs : (r.sec p0 c0 L2 p2 c2 O2).sd = rset r.Q Fs r.sd r.Q.length) :
    Sim (m.moved L DO n').clean (r.sec p0 c0 L2 p2 c2 O2).clean := by
  have hE := settle_eq h.Q Fs h.S
  refine ⟨h.off, ?_, rfl, h.cut, h.fail, h.c0, h.c1, h.F, h.f1⟩
  have h6 : EqS (L.map OcS.l, fun z => Maps.has DO (.int .i64 z)) (r.sec p0 c0 L2 p2 c2 O2).sd := by
    rw [hs]
    exact ⟨H.1.S.trans hE.S, fun z hz => (H.1.O z hz).trans (hE.O z hz)⟩
  exact h6
/-- All that waits is sure, in both. -/
theorem Sim.flushed {m : DM} {r : RM} (h : Sim m r) {L : List OcS} {DO : DataW Unit} {n' : Nat} (H1 : L.map OcS.l = (flushD m.Qs m.sd m.Qs.length).1) (H2 : ∀ z : Int, (Lit.int .i64 z).wf = true → Maps.has DO (.int .i64 z) = (flushD m.Qs m.sd m.Qs.length).2 z) {p0 : Option Addr} {c0 : Nat} {L2 : List OcS} {p2 : Option Addr} {c2 : Nat} {O2 : List Bool} (hs : (r.sec p0 c0 L2 p2 c2 O2).sd = rflush r.Q r.sd r.Q.length) :
    Sim (m.moved L DO n').clean (r.sec p0 c0 L2 p2 c2 O2).clean := by
  have hE := flush_eq h.Q h.S
  refine ⟨h.off, ?_, rfl, h.cut, h.fail, h.c0, h.c1, h.F, h.f1⟩
  have h6 : EqS (L.map OcS.l, fun z => Maps.has DO (.int .i64 z)) (r.sec p0 c0 L2 p2 c2 O2).sd := by
    rw [hs]
    exact ⟨H1.trans hE.S, fun z hz => (H2 z hz).trans (hE.O z hz)⟩
  exact h6
/-- The power has gone, in both. -/
theorem Sim.gone {m : DM} {r : RM} (h : Sim m r) : Sim m.gone { r with off := true, cut := 0 } :=
  ⟨rfl, h.S, h.Q, .inl ⟨rfl, rfl⟩, (fun e => by cases e), Int.le_refl _, (by show (0 : Int) ≤ 9223372036854775807; decide), h.F, h.f1⟩
/-- The power is on again, in both. -/
theorem Sim.reset {m : DM} {r : RM} (h : Sim m r) : Sim m.reset { r with off := false, cut := 0, fail := -1 } :=
  ⟨rfl, h.S, h.Q, .inl ⟨rfl, rfl⟩, fun _ => .inl ⟨rfl, rfl⟩, Int.le_refl _, (by show (0 : Int) ≤ 9223372036854775807; decide), h.F, (by show (-1 : Int) ≤ 9223372036854775807; decide)⟩
/-- When the power goes is told, in both. -/
theorem Sim.told {m : DM} {r : RM} (h : Sim m r) (ho : r.off = false) (z : Int) (hz : 0 < z) (hz1 : z ≤ 9223372036854775807) (Fs : List Int) (hF : ∀ f ∈ Fs, f ≤ 9223372036854775807) (q : Option Addr) (c : Nat) (p5 : Option Addr) (c5 : Nat) : Sim (m.toldCut z q c Fs) { r with cut := z, p5 := p5, c5 := c5, F := Fs } :=
  ⟨h.off, h.S, h.Q, .inr ⟨h.off.trans ho, rfl, hz, rfl, rfl⟩, h.fail, Int.le_of_lt hz, hz1, hF, h.f1⟩
/-- A call that fails is told, in both. -/
theorem Sim.fails {m : DM} {r : RM} (h : Sim m r) (z : Int) (hz1 : z ≤ 9223372036854775807) : Sim { m with tf := true, fl := z } { r with fail := if r.off then r.fail else max z 0 } := by
  refine ⟨h.off, h.S, h.Q, h.cut, fun ho => .inr ⟨rfl, ?_⟩, h.c0, h.c1, h.F, ?_⟩
  · have : r.off = false := ho
    rw [this]; rfl
  · show (if r.off then r.fail else max z 0) ≤ _
    have := h.f1
    split
    · exact this
    · omega
/-- What is read, in both. -/
theorem Sim.cur {m : DM} {r : RM} (h : Sim m r) (z : Int) : (m.cur z).l = (r.cur z).l := by
  unfold DM.cur RM.cur
  rw [ats_wd h.Q]
  cases lastI (r.Q.map (·.at_)) z with
  | some i => exact (at_wd h.Q i).2
  | none =>
    have h1 : m.Ls.map OcS.l = r.L.map OcS.l := h.S.S
    have h2 : (m.Ls[z.toNat]?).map OcS.l = (r.L[z.toNat]?).map OcS.l := by rw [← List.getElem?_map, ← List.getElem?_map, h1]
    show (ocA m.Ls z.toNat).l = (ocA r.L z.toNat).l
    unfold ocA atR
    cases hq : m.Ls[z.toNat]? with
    | none =>
      cases hr : r.L[z.toNat]? with
      | none => rfl
      | some y => rw [hq, hr] at h2; cases h2
    | some x =>
      cases hr : r.L[z.toNat]? with
      | none => rw [hq, hr] at h2; cases h2
      | some y =>
        rw [hq, hr] at h2
        exact Option.some.inj h2
end Go.Proofs.Ytpgibngohbohdaa

/-
  Package disk: goAtZero whatever is told; Cut where the power is off; Flush that fails; Count.
-/


namespace Go.Proofs.Ytpgibngohbohdaa
open Go.RowKit Go.Maps
set_option linter.unusedVariables false
set_option linter.unusedSimpArgs false

set_option maxRecDepth 100000 in
theorem goz_still (m : DM) (b : Nat) (w : World) (B : Blk w b m.cells) (h : m.tl = true) (hc : ¬ m.cl ≤ 0) : Calls Try.prog 69 #[.pointer (some ⟨b, 0, none⟩)] w fun e w' => e = .returned (.tuple #[]) ∧ w' = w := by
  simp only [DM.cells, DM.sv, DM.wv, DM.fv, h] at B
  obtain ⟨l0, k0, f0⟩ := B
  have hcd : decide (m.cl ≤ 0) = false := decide_eq_false hc
  go_enter Try.func69, Try.ntmps69
  go_wp2_with fail
  refine bodyPost_end (results_none rfl _ _ _) rfl ?_
  exact ⟨rfl, rfl⟩
/-- goAtZero, whatever is told. -/
def GozW (b : Nat) (K1 : Nat → Prop) (m : DM) (w w' : World) : Prop := ∃ m' K', DiskM w' b m' K' ∧ Goz m m' ∧ m'.Ls.length = m.Ls.length ∧ Sole K1 w w' ∧ ∀ k, K' k → K1 k ∨ w.heap.size ≤ k
theorem goz_any (m : DM) (b : Nat) (K : Nat → Prop) (w : World) (D : DiskM w b m K) (hFw : m.tl = true → ∀ f ∈ m.Fs, f ≤ 9223372036854775807) (hn : m.n' + m.Qs.length < 1000000) :
    Calls Try.prog 69 #[.pointer (some ⟨b, 0, none⟩)] w fun e w' => e = .returned (.tuple #[]) ∧ GozW b K m w w' := by
  by_cases h : m.tl = true
  · by_cases hc : m.cl ≤ 0
    · refine (goz_fire m b K w D h hc (hFw h) hn).mono ?_
      rintro e w' ⟨rfl, L, DO, n', K', D', ST, S⟩
      exact ⟨rfl, _, K', D', .inr ⟨⟨h, hc⟩, L, DO, n', rfl, ⟨ST.S, ST.O⟩, ST.n⟩, ST.len, S, ST.K⟩
    · refine (goz_still m b w D.blk h hc).mono ?_
      rintro e w' ⟨rfl, rfl⟩
      exact ⟨rfl, m, K, D, .inl ⟨fun x => hc x.2, rfl⟩, rfl, Sole.refl _ _, fun k hk => .inl hk⟩
  · refine (goz_off m b w D.blk (by simpa using h)).mono ?_
    rintro e w' ⟨rfl, rfl⟩
    exact ⟨rfl, m, K, D, .inl ⟨fun x => h x.1, rfl⟩, rfl, Sole.refl _ _, fun k hk => .inl hk⟩
set_option maxRecDepth 100000 in
theorem cut_off (m : DM) (b : Nat) (w : World) (B : Blk w b m.cells) (h : m.off = true) (z : Value) (f : Value) : Calls Try.prog 40 #[.pointer (some ⟨b, 0, none⟩), z, f] w fun e w' => e = .returned (.tuple #[]) ∧ w' = w := by
  simp only [DM.cells, DM.sv, DM.wv, DM.fv, h] at B
  obtain ⟨l0, k0, f0⟩ := B
  go_enter Try.func40, Try.ntmps40
  go_wp2_with fail
  refine bodyPost_ret (results_none rfl _ _ _) rfl ?_
  exact ⟨rfl, rfl⟩
set_option maxRecDepth 100000 in
theorem flush_bad (m : DM) (b : Nat) (K : Nat → Prop) (w : World) (D : DiskM w b m K) (h : m.trb = true) : Calls Try.prog 37 #[.pointer (some ⟨b, 0, none⟩)] w fun e w' => e = .returned (.int .i64 20) ∧ DiskM w' b m.after K ∧ Sole K w w' := by
  have KT := hid (trouble_any m b w D.blk)
  have Dh := hid D
  have ht := h
  clear D h
  simp only [ht, if_true, ↓reduceIte] at KT
  go_enter Try.func37, Try.ntmps37
  go_wp2_with fail
  refine KT.out.mono ?_
  rintro e w1 ⟨rfl, hB, hS⟩
  have E := hid (show DiskM w1 b m.after K ∧ Sole K w w1 from ⟨Dh.out.after hB hS, hS.mono fun k _ e => e ▸ Dh.out.kk _ (.inl rfl)⟩)
  clear hB hS KT Dh
  go_wp2_with fail
  go_ret
  exact ⟨rfl, E.out⟩
set_option maxRecDepth 100000 in
theorem dcount_any (m : DM) (b : Nat) (w : World) (B : Blk w b m.cells) : Calls Try.prog 14 #[.pointer (some ⟨b, 0, none⟩)] w fun e w' => e = .returned (.int .i64 (m.Ls.length : Int)) ∧ w' = w := by
  simp only [DM.cells, DM.sv, DM.wv, DM.fv] at B
  obtain ⟨l0, k0, f0⟩ := B
  go_enter Try.func14, Try.ntmps14
  go_wp2_with fail
  go_ret
  exact ⟨rfl, rfl⟩

theorem Sim.failsOff {m : DM} {r : RM} (h : Sim m r) (ho : r.off = true) (z : Int) : Sim { m with tf := true, fl := z } r :=
  ⟨h.off, h.S, h.Q, h.cut, (fun e => by rw [ho] at e; cases e), h.c0, h.c1, h.F, h.f1⟩
theorem Sim.failsOn {m : DM} {r : RM} (h : Sim m r) (ho : r.off = false) (z : Int) (hz1 : z ≤ 9223372036854775807) : Sim { m with tf := true, fl := z } { r with fail := max z 0 } :=
  ⟨h.off, h.S, h.Q, h.cut, fun _ => .inr ⟨rfl, rfl⟩, h.c0, h.c1, h.F, by show max z 0 ≤ _; omega⟩
theorem DM.few.succ {m : DM} {k : Nat} (h : m.few k) : m.few (k + 1) := ⟨Nat.le_succ_of_le h.1, Nat.le_succ_of_le h.2⟩
/-- A disk and the document's, apart. -/
structure Two (B : Nat) (w : World) (b rx : Nat) (m : DM) (K : Nat → Prop) (r : RM) (J : Nat → Prop) : Prop where
  D : DiskM w b m K
  P : Blk w rx r.cells.toArray
  R : RefM w r J
  KB : ∀ k, K k → B ≤ k
  xB : B ≤ rx
  KJ : ∀ k, K k → ¬ J k
  Kx : ¬ K rx
  Jx : ¬ J rx
theorem Two.more {B : Nat} {w w' : World} {b rx : Nat} {m : DM} {K : Nat → Prop} {r : RM} {J : Nat → Prop} (h : Two B w b rx m K r J) (hb : Below w.heap.size w w') : Two B w' b rx m K r J :=
  ⟨h.D.more hb, h.P.more hb, h.R.more hb, h.KB, h.xB, h.KJ, h.Kx, h.Jx⟩
/-- A call of the disk. -/
theorem Two.disk {B : Nat} {w w' : World} {b rx : Nat} {m m' : DM} {K K' : Nat → Prop} {r : RM} {J : Nat → Prop} (h : Two B w b rx m K r J) (hB : B ≤ w.heap.size) (D' : DiskM w' b m' K') (S : Sole K w w') (hK : ∀ k, K' k → K k ∨ w.heap.size ≤ k) : Two B w' b rx m' K' r J :=
  ⟨D', h.P.sole S h.Kx, h.R.sole S fun k hj hk => h.KJ k hk hj, fun k hk => (hK k hk).elim (h.KB k) (Nat.le_trans hB), h.xB, fun k hk hj => (hK k hk).elim (fun x => h.KJ k x hj) (fun x => by have := h.R.jlt k hj; omega), fun hk => (hK _ hk).elim h.Kx (fun x => by have := h.P.lt; omega), h.Jx⟩
theorem Two.low {B : Nat} {w w' : World} {b rx : Nat} {m : DM} {K : Nat → Prop} {r : RM} {J : Nat → Prop} (h : Two B w b rx m K r J) (hB : B ≤ w.heap.size) (S : Sole K w w') : Below B w w' := S.below hB h.KB
/-- A call of the document's, its answer stored. -/
theorem Two.ref {B : Nat} {w w1 : World} {b rx : Nat} {m : DM} {K : Nat → Prop} {r r' : RM} {J : Nat → Prop} (h : Two B w b rx m K r J) (hb : Below w.heap.size w w1) (R1 : RefM w1 r' (JN J w w1)) : Two B (setAll w1 rx 0 r'.cells) b rx m K r' (JN J w w1) := by
  have S := sole_setAll (S := fun k => k = rx) rfl r'.cells 0 w1
  have hs := size_setAll (b := rx) r'.cells 0 w1
  have hx := h.P.lt
  have hjx : ¬ JN J w w1 rx := fun e => e.elim h.Jx (fun x => by omega)
  refine ⟨(h.D.more hb).kept S (fun k hk e => h.Kx (e ▸ hk)), ?_, R1.sole S (fun k hk e => hjx (e ▸ hk)), h.KB, h.xB, fun k hk hj => hj.elim (h.KJ k hk) (fun x => by have := h.D.klt k hk; omega), h.Kx, hjx⟩
  have e : fillC r.cells.toArray 0 r'.cells = r'.cells.toArray := by simp [RM.cells, rdv, fillC]
  rw [← e]
  exact Blk.fill r'.cells 0 (h.P.more hb) (by simp)
theorem Two.ref_low {B : Nat} {w w1 : World} {b rx : Nat} {m : DM} {K : Nat → Prop} {r : RM} {J : Nat → Prop} (h : Two B w b rx m K r J) (hB : B ≤ w.heap.size) (hb : Below w.heap.size w w1) (l : List Value) : Below B w (setAll w1 rx 0 l) :=
  (hb.mono hB).trans ((sole_setAll (S := fun k => k = rx) rfl l 0 w1).below (B := B) (Nat.le_trans hB hb.size) fun k e => e ▸ h.xB)
/-- One of the document's numbers. -/
theorem Two.cell {B : Nat} {w : World} {b rx : Nat} {m : DM} {K : Nat → Prop} {r : RM} {J : Nat → Prop} (h : Two B w b rx m K r J) (o : Nat) (v : Value) (r' : RM) (ho : o < 7) (hR : ∀ W' J', RefM W' r J' → RefM W' r' J') (hc : r.cells.toArray.setIfInBounds o v = r'.cells.toArray) : Two B (w.setCell ⟨rx, o, none⟩ v) b rx m K r' J := by
  have S : Sole (fun k => k = rx) w (w.setCell ⟨rx, o, none⟩ v) := Sole.setCell w v rfl
  refine ⟨h.D.kept S (fun k hk e => h.Kx (e ▸ hk)), ?_, hR _ _ (h.R.sole S (fun k hk e => h.Jx (e ▸ hk))), h.KB, h.xB, h.KJ, h.Kx, h.Jx⟩
  rw [← hc]
  exact h.P.set o v (by simpa using ho)
theorem Two.cell_low {B : Nat} {w : World} {b rx : Nat} {m : DM} {K : Nat → Prop} {r : RM} {J : Nat → Prop} (h : Two B w b rx m K r J) (hB : B ≤ w.heap.size) (o : Nat) (v : Value) : Below B w (w.setCell ⟨rx, o, none⟩ v) :=
  (Sole.setCell (S := fun k => k = rx) w (b := rx) (o := o) v rfl).below (B := B) hB fun k e => e ▸ h.xB
/-- Broken changes only what is left to fail. -/
theorem Two.broken {B : Nat} {w w1 : World} {b rx : Nat} {m : DM} {K : Nat → Prop} {r : RM} {J : Nat → Prop} (h : Two B w b rx m K r J) (hb : Below w.heap.size w w1) (f : Int) : Two B (setAll w1 rx 0 (RM.cells { r with fail := f })) b rx m K { r with fail := f } (JN J w w1) :=
  h.ref hb (((h.R.more hb).scal r.off r.cut f).wide (fun k hk => .inl hk) (jn_lt hb.size h.R.jlt))
end Go.Proofs.Ytpgibngohbohdaa

/-
  The document's own disk: New: so many sectors.
-/


namespace Go.Proofs.Ytpgibngohbohdaa
open Go.RowKit Go.Maps
set_option linter.unusedVariables false
set_option linter.unusedSimpArgs false

/-- As New's loop goes. -/
structure NewAt (w W : World) (p0 : Option Addr) (c0 : Nat) (L : List OcS) (p2 : Option Addr) (c2 : Nat) (O : List Bool) : Prop where
  Z : Blk W w.heap.size rz
  B : Blk W (w.heap.size + 1) (rdv p0 L.length c0 none 0 0 p2 O.length c2 false 0 none 0 0 (-1)).toArray
  hS : RowOwn ocT W (w.heap.size + 2) (.slice p0 L.length c0) L
  hO : RowOwn blT W (w.heap.size + 2) (.slice p2 O.length c2) O
  LO : ∀ x ∈ L, x.there W ∧ x.l = zerosN 256 ∧ ∃ g, x.a = some ⟨g, 0, none⟩ ∧ w.heap.size + 2 ≤ g ∧ g < W.heap.size ∧ (Value.slice p0 L.length c0).ownBlock ≠ some g ∧ (Value.slice p2 O.length c2).ownBlock ≠ some g
  D : Below w.heap.size w W
theorem NewAt.size {w W : World} {p0 : Option Addr} {c0 : Nat} {L : List OcS} {p2 : Option Addr} {c2 : Nat} {O : List Bool} (h : NewAt w W p0 c0 L p2 c2 O) : w.heap.size + 2 ≤ W.heap.size := h.B.lt
theorem NewAt.more {w W W' : World} {p0 : Option Addr} {c0 : Nat} {L : List OcS} {p2 : Option Addr} {c2 : Nat} {O : List Bool} (h : NewAt w W p0 c0 L p2 c2 O) (hb : Below W.heap.size W W') : NewAt w W' p0 c0 L p2 c2 O :=
  ⟨h.Z.more hb, h.B.more hb, h.hS.more hb, h.hO.more hb, fun x hx => by
    obtain ⟨h1, h2, g, h3, h4, h5, h6⟩ := h.LO x hx
    exact ⟨h1.more hb, h2, g, h3, h4, Nat.lt_of_lt_of_le h5 hb.size, h6⟩, below2 h.D hb h.D.size⟩
/-- One sector more. -/
theorem NewAt.sure {w W : World} {p0 : Option Addr} {c0 : Nat} {L : List OcS} {p2 : Option Addr} {c2 : Nat} {O : List Bool} (h : NewAt w W p0 c0 L p2 c2 O) (hn : L.length < 4096) :
    ∃ q c W3, (∀ ty, (Builtin.append_ #[26, 26] ty #[.slice p0 L.length c0, .slice (some ⟨W.heap.size + 1, 0, none⟩) 1 1]).run Try.prog ((W.alloc (.cells (madeCells #[.int .u8 0] 256) 5)).alloc (.cells #[.slice (some ⟨W.heap.size, 0, none⟩) 256 256] 35)) = .ok (.slice q (L.length + 1) c) W3) ∧
      Blk W3 (w.heap.size + 1) (rdv p0 L.length c0 none 0 0 p2 O.length c2 false 0 none 0 0 (-1)).toArray ∧
      NewAt w (W3.setCell ⟨w.heap.size + 1, 0, none⟩ (.slice q (L.length + 1) c)) q c (L ++ [⟨some ⟨W.heap.size, 0, none⟩, 256, zerosN 256⟩]) p2 c2 O := by
  have hW := h.size
  have b1 : Below W.heap.size W (W.alloc (.cells (madeCells #[.int .u8 0] 256) 5)) := (Below.refl _ _).alloc (Nat.le_refl _) _
  have s1 : (W.alloc (.cells (madeCells #[.int .u8 0] 256) 5)).heap.size = W.heap.size + 1 := by simp
  have T1 : (⟨some ⟨W.heap.size, 0, none⟩, 256, zerosN 256⟩ : OcS).there (W.alloc (.cells (madeCells #[.int .u8 0] 256) 5)) := ⟨made_octs 5 256 W, by rw [zerosN_len]; exact Nat.le_refl _, by show 256 ≤ maxLen; unfold maxLen; omega⟩
  have B2 := Blk.new (W.alloc (.cells (madeCells #[.int .u8 0] 256) 5)) #[.slice (some ⟨W.heap.size, 0, none⟩) 256 256] 35
  rw [s1] at B2
  have b2 : Below (W.alloc (.cells (madeCells #[.int .u8 0] 256) 5)).heap.size (W.alloc (.cells (madeCells #[.int .u8 0] 256) 5)) ((W.alloc (.cells (madeCells #[.int .u8 0] 256) 5)).alloc (.cells #[.slice (some ⟨W.heap.size, 0, none⟩) 256 256] 35)) := (Below.refl _ _).alloc (Nat.le_refl _) _
  have s2 : ((W.alloc (.cells (madeCells #[.int .u8 0] 256) 5)).alloc (.cells #[.slice (some ⟨W.heap.size, 0, none⟩) 256 256] 35)).heap.size = W.heap.size + 2 := by simp
  have b12 := below2 b1 b2 b1.size
  have T2 := T1.more b2
  have H2 := h.more b12
  generalize (W.alloc (.cells (madeCells #[.int .u8 0] 256) 5)).alloc (.cells #[.slice (some ⟨W.heap.size, 0, none⟩) 256 256] 35) = W2 at *
  clear b1 b2 T1 s1
  obtain ⟨v3, W3, hr, O3, gr, mv⟩ := append_row ocOk (w.heap.size + 2) ocT.sl W2 _ L H2.hS (some ⟨W.heap.size + 1, 0, none⟩) 1 [(⟨some ⟨W.heap.size, 0, none⟩, 256, zerosN 256⟩ : OcS)] (rowOf_one ocOk B2 (by show _ = [Value.slice _ (zerosN 256).length _]; rw [zerosN_len])) (by show (L.length + 1) * 24 ≤ _; omega) (by show L.length + 1 ≤ _; unfold maxLen; omega) (by omega)
  have hv3 : ∃ g c, v3 = .slice (some ⟨g, 0, none⟩) (L.length + 1) c := by
    rcases O3.form with ⟨_, e⟩ | ⟨g, cap, e, _⟩
    · simp at e
    · exact ⟨g, cap, by simpa using e⟩
  obtain ⟨g, c, rfl⟩ := hv3
  have S23 : Sole (fun k => (Value.slice p0 L.length c0).ownBlock = some k) W2 W3 := Sole.grown gr fun k e => e
  have hbd := h.hS.within
  have B3 : Blk W3 (w.heap.size + 1) _ := H2.B.sole S23 (fun e => by have := (hbd _ e).1; omega)
  have Z3 : Blk W3 w.heap.size _ := H2.Z.sole S23 (fun e => by have := (hbd _ e).1; omega)
  have hg : g ≠ W.heap.size ∧ (∀ k, k < W.heap.size → (Value.slice p0 L.length c0).ownBlock ≠ some k → g ≠ k) := by
    rcases mv with e | e
    · have hx : (Value.slice p0 L.length c0).ownBlock = some g := e.symm
      have := (hbd g hx).2
      exact ⟨by omega, fun k _ hk e' => hk (e' ▸ hx)⟩
    · have : g = W2.heap.size := by have e' := e; simp only [Value.ownBlock] at e'; cases e'; rfl
      exact ⟨by omega, fun k hk _ => by omega⟩
  have S34 : Sole (fun k => k = w.heap.size + 1) W3 (W3.setCell ⟨w.heap.size + 1, 0, none⟩ (.slice (some ⟨g, 0, none⟩) (L.length + 1) c)) := Sole.setCell W3 _ rfl
  have hO2 := own_apart (H2.hS) (H2.hO) (by decide)
  have hO3 := O3.within g rfl
  have hOw := h.hO.within
  have hsz := S23.size
  refine ⟨_, c, W3, fun ty => hr, B3, ?_⟩
  exact
  { Z := Z3.sole S34 (by omega)
    B := by
      have := B3.set 0 (.slice (some ⟨g, 0, none⟩) (L.length + 1) c) (by simp)
      simpa [rdv] using this
    hS := by
      have : RowOwn ocT W3 (w.heap.size + 2) (.slice (some ⟨g, 0, none⟩) (L.length + 1) c) (L ++ [⟨some ⟨W.heap.size, 0, none⟩, 256, zerosN 256⟩]) := O3
      rw [show (L ++ [(⟨some ⟨W.heap.size, 0, none⟩, 256, zerosN 256⟩ : OcS)]).length = L.length + 1 by simp]
      exact this.sole S34 (fun k e e' => by have := own_g e; omega)
    hO := (RowOwn.sole H2.hO S23 (fun k e e' => hO2 k e' e)).sole S34 (fun k e e' => by have := (hOw k e).1; omega)
    LO := fun x hx => by
      rw [show (L ++ [(⟨some ⟨W.heap.size, 0, none⟩, 256, zerosN 256⟩ : OcS)]).length = L.length + 1 by simp]
      have s34 := S34.size
      rcases List.mem_append.1 hx with hx | hx
      · obtain ⟨h1, h2, k, h3, h4, h5, h6, h7⟩ := H2.LO x hx
        obtain ⟨_, _, k', h3', _, h5', _, _⟩ := h.LO x hx
        obtain rfl : k = k' := by rw [h3] at h3'; cases h3'; rfl
        refine ⟨oc_sole (oc_sole h1 S23 fun b o e e' => by rw [h3] at e; cases e; exact h6 e') S34 fun b o e e' => by rw [h3] at e; cases e; omega, h2, k, h3, h4, by omega, fun e => hg.2 k h5' h6 (own_g e).symm, h7⟩
      · rw [List.mem_singleton.1 hx]
        refine ⟨oc_sole (oc_sole T2 S23 fun b o e e' => by cases e; have := (hbd _ e').2; omega) S34 fun b o e e' => by cases e; omega, rfl, W.heap.size, rfl, by omega, by omega, fun e => hg.1 (own_g e).symm, fun e => by have := (hOw _ e).2; omega⟩
    D := Below.setCell (p := ⟨w.heap.size + 1, 0, none⟩) (H2.D.trans (S23.below (B := w.heap.size) H2.D.size fun k e => by have := (hbd k e).1; omega)) (Nat.le_succ _) _ }
/-- None of it is odd. -/
theorem NewAt.odd {w W : World} {p0 : Option Addr} {c0 : Nat} {L : List OcS} {p2 : Option Addr} {c2 : Nat} {O : List Bool} (h : NewAt w W p0 c0 L p2 c2 O) (hn : O.length < 4096) :
    ∃ q c W3, (∀ ty, (Builtin.append_ #[28, 28] ty #[.slice p2 O.length c2, .slice (some ⟨W.heap.size, 0, none⟩) 1 1]).run Try.prog (W.alloc (.cells #[.bool false] 4)) = .ok (.slice q (O.length + 1) c) W3) ∧
      Blk W3 (w.heap.size + 1) (rdv p0 L.length c0 none 0 0 p2 O.length c2 false 0 none 0 0 (-1)).toArray ∧
      NewAt w (W3.setCell ⟨w.heap.size + 1, 2, none⟩ (.slice q (O.length + 1) c)) p0 c0 L q c (O ++ [false]) := by
  have hW := h.size
  have b2 : Below W.heap.size W (W.alloc (.cells #[.bool false] 4)) := (Below.refl _ _).alloc (Nat.le_refl _) _
  have s2 : (W.alloc (.cells #[.bool false] 4)).heap.size = W.heap.size + 1 := by simp
  have B2 := Blk.new W #[.bool false] 4
  have H2 := h.more b2
  generalize W.alloc (.cells #[.bool false] 4) = W2 at *
  obtain ⟨v3, W3, hr, O3, gr, mv⟩ := append_row blOk (w.heap.size + 2) blT.sl W2 _ O H2.hO (some ⟨W.heap.size, 0, none⟩) 1 [false] (rowOf_one blOk B2 rfl) (by show (O.length + 1) * 1 ≤ _; omega) (by show O.length + 1 ≤ _; unfold maxLen; omega) (by omega)
  have hv3 : ∃ g c, v3 = .slice (some ⟨g, 0, none⟩) (O.length + 1) c := by
    rcases O3.form with ⟨_, e⟩ | ⟨g, cap, e, _⟩
    · simp at e
    · exact ⟨g, cap, by simpa using e⟩
  obtain ⟨g, c, rfl⟩ := hv3
  have S23 : Sole (fun k => (Value.slice p2 O.length c2).ownBlock = some k) W2 W3 := Sole.grown gr fun k e => e
  have hbd := h.hO.within
  have B3 : Blk W3 (w.heap.size + 1) _ := H2.B.sole S23 (fun e => by have := (hbd _ e).1; omega)
  have Z3 : Blk W3 w.heap.size _ := H2.Z.sole S23 (fun e => by have := (hbd _ e).1; omega)
  have hg : ∀ k, k < W.heap.size → (Value.slice p2 O.length c2).ownBlock ≠ some k → g ≠ k := by
    rcases mv with e | e
    · have hx : (Value.slice p2 O.length c2).ownBlock = some g := e.symm
      exact fun k _ hk e' => hk (e' ▸ hx)
    · have : g = W2.heap.size := by have e' := e; simp only [Value.ownBlock] at e'; cases e'; rfl
      exact fun k hk _ => by omega
  have S34 : Sole (fun k => k = w.heap.size + 1) W3 (W3.setCell ⟨w.heap.size + 1, 2, none⟩ (.slice (some ⟨g, 0, none⟩) (O.length + 1) c)) := Sole.setCell W3 _ rfl
  have hO2 := own_apart (H2.hS) (H2.hO) (by decide)
  have hO3 := O3.within g rfl
  have hSw := h.hS.within
  have hsz := S23.size
  refine ⟨_, c, W3, fun ty => hr, B3, ?_⟩
  exact
  { Z := Z3.sole S34 (by omega)
    B := by
      have := B3.set 2 (.slice (some ⟨g, 0, none⟩) (O.length + 1) c) (by simp)
      simpa [rdv] using this
    hS := (RowOwn.sole H2.hS S23 (fun k e e' => hO2 k e e')).sole S34 (fun k e e' => by have := (hSw k e).1; omega)
    hO := by
      have : RowOwn blT W3 (w.heap.size + 2) (.slice (some ⟨g, 0, none⟩) (O.length + 1) c) (O ++ [false]) := O3
      rw [show (O ++ [false]).length = O.length + 1 by simp]
      exact this.sole S34 (fun k e e' => by have := own_g e; omega)
    LO := fun x hx => by
      rw [show (O ++ [false]).length = O.length + 1 by simp]
      have s34 := S34.size
      obtain ⟨h1, h2, k, h3, h4, h5, h6, h7⟩ := H2.LO x hx
      obtain ⟨_, _, k', h3', _, h5', _, _⟩ := h.LO x hx
      obtain rfl : k = k' := by rw [h3] at h3'; cases h3'; rfl
      exact ⟨oc_sole (oc_sole h1 S23 fun b o e e' => by rw [h3] at e; cases e; exact h7 e') S34 fun b o e e' => by rw [h3] at e; cases e; omega, h2, k, h3, h4, by omega, h6, fun e => hg k h5' h7 (own_g e).symm⟩
    D := Below.setCell (p := ⟨w.heap.size + 1, 2, none⟩) (H2.D.trans (S23.below (B := w.heap.size) H2.D.size fun k e => by have := (hbd k e).1; omega)) (Nat.le_succ _) _ }
/-- A new disk of the document's. -/
def newR (p0 : Option Addr) (c0 : Nat) (L : List OcS) (p2 : Option Addr) (c2 : Nat) (O : List Bool) : RM := ⟨p0, c0, L, none, 0, [], p2, c2, O, false, 0, none, 0, [], -1⟩
theorem NewAt.refM {w W : World} {p0 : Option Addr} {c0 : Nat} {L : List OcS} {p2 : Option Addr} {c2 : Nat} {O : List Bool} (h : NewAt w W p0 c0 L p2 c2 O) (hl : O.length = L.length) (hn : L.length ≤ 4096) : RefM W (newR p0 c0 L p2 c2 O) (fun j => False ∨ (w.heap.size + 1 ≤ j ∧ j < W.heap.size)) := by
  have hj0 : ∀ b o, p0 = some ⟨b, o, none⟩ → w.heap.size + 1 ≤ b ∧ b < W.heap.size := fun b o e => by
    rcases h.hS.form with ⟨e1, _⟩ | ⟨g, cap, e1, h1, h2, _⟩
    · simp at e1; rw [e1.1] at e; cases e
    · simp at e1; rw [e1.1] at e; cases e; omega
  have hj2 : ∀ b o, p2 = some ⟨b, o, none⟩ → w.heap.size + 1 ≤ b ∧ b < W.heap.size := fun b o e => by
    rcases h.hO.form with ⟨e1, _⟩ | ⟨g, cap, e1, h1, h2, _⟩
    · simp at e1; rw [e1.1] at e; cases e
    · simp at e1; rw [e1.1] at e; cases e; omega
  exact
  { L := row_of ocOk h.hS
    Q := .inl rfl
    O := row_of blOk h.hO
    F := .inl rfl
    LO := fun x hx => by
      obtain ⟨h1, h2, g, h3, h4, h5, _⟩ := h.LO x hx
      exact ⟨h1, by rw [h2, zerosN_len], fun b o e => by rw [h3] at e; cases e; exact .inr ⟨by omega, h5⟩⟩
    QO := nofun
    lO := hl
    lL := hn
    lQ := Nat.zero_le _
    lF := Nat.zero_le _
    j0 := fun b o e => .inr (hj0 b o e)
    j1 := nofun
    j2 := fun b o e => .inr (hj2 b o e)
    j5 := nofun
    jlt := fun k hk => hk.elim False.elim (·.2) }
set_option maxRecDepth 100000 in
set_option maxHeartbeats 2000000 in
theorem rnew_any (z : Int) (w : World) : Calls Try.prog 9 #[.int .i64 z] w fun e w' =>
    ∃ p0 c0 L p2 c2, e = .returned (newR p0 c0 L p2 c2 (List.replicate (sectorsN z) false)).v ∧ L.length = sectorsN z ∧ (∀ x ∈ L, x.l = zerosN 256) ∧ RefM w' (newR p0 c0 L p2 c2 (List.replicate (sectorsN z) false)) (JN (fun _ => False) w w') ∧ Below w.heap.size w w' := by
  have hN : (sectorsN z : Int) = min (max z 0) 4096 := by unfold sectorsN; omega
  have hN4 : sectorsN z ≤ 4096 := by unfold sectorsN; omega
  generalize sectorsN z = N at *
  have hNm : min (max z 0) 4096 = (N : Int) := hN.symm
  clear hN
  have mk : ∀ w, (Instr.makeSlice 35 (.int .i64 256) (.int .i64 256)).run Try.prog w = .ok (.slice (some ⟨w.heap.size, 0, none⟩) 256 256) (w.alloc (.cells (madeCells #[.int .u8 0] 256) 5)) := fun w => run_zeros 256 (by omega) w
  have B1 : Blk ((w.alloc (.cells rz 31)).alloc (.cells (rdv none 0 0 none 0 0 none 0 0 false 0 none 0 0 (-1)).toArray 31)) (w.heap.size + 1) (rdv none 0 0 none 0 0 none 0 0 false 0 none 0 0 (-1)).toArray := by
    have := Blk.new (w.alloc (.cells rz 31)) (rdv none 0 0 none 0 0 none 0 0 false 0 none 0 0 (-1)).toArray 31
    simpa using this
  have NM : NewAt w ((w.alloc (.cells rz 31)).alloc (.cells (rdv none 0 0 none 0 0 none 0 0 false 0 none 0 0 (-1)).toArray 31)) none 0 [] none 0 [] :=
    ⟨(Blk.new w _ _).more (rbelow_one _ _), B1, RowOwn.nil _ _, RowOwn.nil _ _, nofun, (rbelow_one _ _).trans ((rbelow_one _ _).mono (by simp))⟩
  have NMh := hid NM
  have hN4h := hid hN4
  clear NM B1
  go_enter Try.func9, Try.ntmps9
  go_wp2_with fail
  go_loopw [4] (fun i wr => ∃ k : Nat, k ≤ N ∧ i = .int .i64 (k : Int) ∧ ∃ p0 c0 L p2 c2, L.length = k ∧ NewAt w wr p0 c0 L p2 c2 (List.replicate k false)) (fun i _ => N - (intOf i).toNat)
  case atStart => exact ⟨0, Nat.zero_le _, rfl, _, _, [], _, _, rfl, NMh.out⟩
  case round =>
    obtain ⟨k, hk, rfl, p0, c0, L, p2, c2, hL, H⟩ := hrel
    by_cases hlt : k < N
    · have hlt' : (k : Int) < (N : Int) := by omega
      have Hd := hid (H.more (Below.refl _ _).drew)
      obtain ⟨q, c, W3, hr1, B3, H4⟩ := Hd.out.sure (by omega)
      obtain ⟨q2, d, W6, hr2, B6, H7⟩ := H4.odd (by rw [List.length_replicate]; omega)
      have hlk : L.length = k := hL
      have B0 := H.B
      have B4 := H4.B
      have hr1h := hid hr1
      have hr2h := hid hr2
      rw [List.length_replicate] at B6 B4 B3 B0 hr2h
      rw [List.length_append, List.length_singleton, hL] at B4 B6
      rw [hL] at B3 B0 hr1h hr2h
      have Eh := hid H7
      have hLh := hid hL
      rw [← List.replicate_succ', List.length_replicate] at Eh
      clear NMh H H4 H7 hr1 hr2 hL
      have BA := B0.alloc (.cells (madeCells #[.int .u8 0] 256) 5)
      have BB := BA.alloc (.cells #[.slice (some ⟨wr.heap.size, 0, none⟩) 256 256] 35)
      obtain ⟨lA, mA, fA⟩ := BA
      obtain ⟨lB, mB, fB⟩ := BB
      obtain ⟨l0, m0, f0⟩ := B0
      obtain ⟨l3, m3, f3⟩ := B3
      obtain ⟨l4, m4, f4⟩ := B4
      obtain ⟨l6, m6, f6⟩ := B6
      have hr1' := hr1h.out
      rw [show ((wr.drew.alloc (.cells (madeCells #[.int .u8 0] 256) 5)).alloc (.cells #[.slice (some ⟨wr.drew.heap.size, 0, none⟩) 256 256] 35)) = ((wr.alloc (.cells (madeCells #[.int .u8 0] 256) 5)).alloc (.cells #[.slice (some ⟨wr.heap.size, 0, none⟩) 256 256] 35)).drew from rfl, show wr.drew.heap.size = wr.heap.size from rfl] at hr1'
      clear hr1h
      go_wp2_with fail
      go_region_law (first
        | (refine step_append_run (by rfl) _ _ _ (by rfl) _ _ (by rfl) (by rfl) _ _ hr1' ?_))
      all_goals
        clear hr1' lA mA fA lB mB fB l0 m0 f0 l3 m3 f3
        generalize World.setCell W3 _ _ = W4 at *
        go_wp2_with (at_builtin; refine Lib.wpList_append_run _ rfl _ _ _ _ rfl _ _ rfl rfl _ _ (hr2h.out _) ?_)
        go_roundw
        case rel => exact ⟨k + 1, by omega, by simp, q, c, L ++ [⟨some ⟨wr.drew.heap.size, 0, none⟩, 256, zerosN 256⟩], q2, d, by rw [List.length_append, hLh.out]; rfl, Eh.out⟩
        case measure => simp [intOf]; omega
    · obtain rfl : k = N := by omega
      have hlt' : ¬ (k : Int) < (k : Int) := by omega
      have Hh := hid H
      have R := H.refM (by rw [List.length_replicate, hL]) (by omega)
      have B0 := H.B
      have Z0 := H.Z
      rw [List.length_replicate, hL] at B0
      have B3 := Blk.fill (rdv p0 k c0 none 0 0 p2 k c2 false 0 none 0 0 (-1)) 0 Z0 (by simp)
      have D3 := hid (below_fill (b := w.heap.size) (Nat.le_refl _) (rdv p0 k c0 none 0 0 p2 k c2 false 0 none 0 0 (-1)) 0 H.D)
      have F3 := hid (RefM.fill R (fun _ x => x.elim) (Nat.le_refl _) (rdv p0 k c0 none 0 0 p2 k c2 false 0 none 0 0 (-1)))
      have hv : (newR p0 c0 L p2 c2 (List.replicate k false)).v = .agg (rdv p0 k c0 none 0 0 p2 k c2 false 0 none 0 0 (-1)).toArray := by
        simp [newR, RM.v, RM.cells, hL]
      have hZ := hid (fun x (hx : x ∈ L) => (H.LO x hx).2.1)
      have hLh := hid hL
      have hvh := hid hv
      clear NMh H R hL hv Hh hlt
      simp only [setAll, Nat.zero_add, Nat.reduceAdd] at B3 D3 F3
      obtain ⟨l0, m0, f0⟩ := B0
      obtain ⟨lz, mz, fz⟩ := Z0
      go_wp2_with fail
      clear l0 m0 f0 lz mz fz
      generalize World.setCell _ _ _ = W3 at *
      obtain ⟨l9, q9, f9⟩ := B3
      refine bodyPost_ret (v := .agg (rdv p0 k c0 none 0 0 p2 k c2 false 0 none 0 0 (-1)).toArray) (by simp [results, Try.results9, go_sem, q9, fillC]) rfl ⟨p0, c0, L, p2, c2, by rw [hvh.out], hLh.out, hZ.out, F3.out, D3.out⟩
end Go.Proofs.Ytpgibngohbohdaa

/-
  The law of the disk: a step: Fail, Power, Cut.
-/



namespace Go.Proofs.Ytpgibngohbohdaa
open Go.RowKit Go.Maps
set_option linter.unusedVariables false
set_option linter.unusedSimpArgs false

/-- A step's call. -/
abbrev opV (kd z n : Int) (da : Option Addr) (dl dc : Nat) (fa : Option Addr) (fl fc : Nat) : List Value := [.int .i64 kd, .int .i64 z, .int .u8 n, .slice da dl dc, .slice fa fl fc]
/-- Which call it is. -/
def KindOf (kd k : Int) : Prop := ∃ u, wrap64 (Int.tmod kd 7 + 7) = u ∧ Int.tmod u 7 = k
/-- What a step leaves. -/
def StepW (B : Nat) (w0 : World) (b rx : Nat) (i : Nat) (w' : World) : Prop := ∃ m' K' r' J', Two B w' b rx m' K' r' J' ∧ Sim m' r' ∧ m'.few (i + 1) ∧ Below B w0 w'
set_option maxRecDepth 100000 in
set_option maxHeartbeats 2000000 in
theorem step_fail (B : Nat) (w : World) (hB : B ≤ w.heap.size) (b rx : Nat) (m : DM) (K : Nat → Prop) (r : RM) (J : Nat → Prop) (T : Two B w b rx m K r J) (S : Sim m r) (i : Nat) (hf : m.few i)
    (kd z n : Int) (hk : KindOf kd 5) (hz : (Lit.int .i64 z).wf = true) (hz1 : z ≤ 9223372036854775807) (da : Option Addr) (dl dc : Nat) (fa : Option Addr) (fl fc : Nat) :
    Calls Try.prog 10 #[.pointer (some ⟨b, 0, none⟩), .pointer (some ⟨rx, 0, none⟩), .agg (opV kd z n da dl dc fa fl fc).toArray] w fun e w' => e = .returned (.bool true) ∧ StepW B w b rx i w' := by
  obtain ⟨u, hk1, hk2⟩ := hk
  have b0 : Below w.heap.size w (w.alloc (.cells (opV kd z n da dl dc fa fl fc).toArray 37)) := rbelow_one _ _
  have B0 := Blk.new w (opV kd z n da dl dc fa fl fc).toArray 37
  have T0 := T.more b0
  generalize hW0 : w.alloc (.cells (opV kd z n da dl dc fa fl fc).toArray 37) = W0 at *
  have KF := hid (fail_any m b K W0 T0.D z hz)
  have Th := hid T0
  have Sh := hid S
  have fh := hid hf
  have bh := hid (b0.mono hB)
  have hKl := hid (fun k (hk : K k) => T.D.klt k hk)
  have hxl := hid T.P.lt
  have Bh := hid B0
  have P0 := T0.P
  simp only [RM.cells, rdv] at P0
  have hBW := hid (Nat.le_trans hB b0.size)
  clear T T0 S hf hB b0
  obtain ⟨l0, m0, f0⟩ := B0
  obtain ⟨l1, m1, f1⟩ := P0
  by_cases hz0 : 0 ≤ z
  all_goals
    have hz0' := hz0
    go_enter Try.func10, Try.ntmps10
    go_wp2_with fail
    refine KF.out.mono ?_
    rintro e w2 ⟨rfl, D2, S2⟩
    have T2 := Th.out.disk hBW.out D2 (S2.mono fun k _ e => e ▸ Th.out.D.kk b (.inl rfl)) (fun k hk => .inl hk)
    have b2 := hid (bh.out.trans (Th.out.low hBW.out (S2.mono fun k _ e => e ▸ Th.out.D.kk b (.inl rfl))))
    have s2 := S2.size
    have B2 : Blk w2 w.heap.size (opV kd z n da dl dc fa fl fc).toArray := Bh.out.sole S2 (fun e => by have := hKl.out b (Th.out.D.kk b (.inl rfl)); omega)
    have P2 := T2.P
    cases hoff : r.off with
    | true =>
      have E := hid (show StepW B w b rx i w2 from ⟨_, K, r, J, T2, Sh.out.failsOff hoff z, DM.few.succ fh.out, b2.out⟩)
      simp only [RM.cells, rdv, hoff] at P2
      clear T2 S2 D2 KF l0 m0 f0 l1 m1 f1 hoff
      obtain ⟨l0, m0, f0⟩ := B2
      obtain ⟨l1, m1, f1⟩ := P2
      go_wp2_with fail
      go_ret
      exact ⟨rfl, E.out⟩
    | false =>
      have T3 := T2.cell 6 (.int .i64 (max z 0)) { r with fail := max z 0 } (by decide) (fun W' J' h => h.scal r.off r.cut (max z 0)) (by simp [RM.cells, rdv])
      have E := hid (show StepW B w b rx i (w2.setCell ⟨rx, 6, none⟩ (.int .i64 (max z 0))) from ⟨_, K, _, J, T3, Sh.out.failsOn hoff z hz1, DM.few.succ fh.out, b2.out.trans (T2.cell_low (Nat.le_trans hBW.out s2) 6 _)⟩)
      simp only [RM.cells, rdv, hoff] at P2
      clear T2 S2 D2 KF l0 m0 f0 l1 m1 f1 hoff T3
      obtain ⟨l0, m0, f0⟩ := B2
      obtain ⟨l1, m1, f1⟩ := P2
      go_wp2_with fail
      go_ret
      exact ⟨rfl, E.out⟩
end Go.Proofs.Ytpgibngohbohdaa

/-
  Calls of the disk that come in, as a list; how many fates each may have.
-/






namespace Go.Proofs.Ytpgibngohbohdaa
open Go.ChangeShapes Go.WideShapes Go.ChangeAt Go.RowKit Go.Joins Go.Deep
set_option linter.unusedVariables false

section
variable {H : Type} {enc : TypeId × Value → H} {P : Program} {w : World} {base : Nat} {spare : Nat → Bool} {held : Bool}
/-- A slice of structs of one-cell fields that comes in, each with its data. -/
theorem sl_ofd {t e : TypeId} {fs : Array Field} {v : Value} {d : DataW H} {p : List MemPlace} {r : Reach} {b0 : Nat} (ht : P.underlying t = some (.slice e)) (he : P.underlying e = some (.struct fs))
    (hone : oneCellFields P fs = true) (hC : P.cellsOf e = fs.size) (hpos : 0 < fs.size) (hval : Value.okWide P w r b0 t v) (h : DataW.Trod enc P w base spare held t v d p) :
    ∃ (n : Nat) (F : Nat → Nat → Value) (Y : Nat → Nat → DataW H), (∃ p cap, v = .slice p n cap ∧ n ≤ cap ∧ cap ≤ maxLen ∧ (n = 0 ∨ ∃ b o, p = some ⟨b, o, none⟩ ∧ b < w.heap.size ∧ ∀ i, i < n → ∀ j, j < fs.size → w.cell? ⟨b, o + i * fs.size + j, none⟩ = some (F i j))) ∧
      (∀ i, i < n → ∀ j f, fs[j]? = some f → ∃ m y, DataW.trod enc P w base spare held m f.type [F i j] = some y ∧ y.1 = Y i j) ∧
      (n = 0 ∨ ∃ el sp, d = .slice el sp ∧ ∀ i, i < n → ∃ parts, DataW.agg parts ∈ el ∧ ∀ j, j < fs.size → parts[j]? = some (Y i j)) := by
  obtain ⟨fuel, hf⟩ := h
  obtain ⟨a0, len, cap, rfl⟩ := okWide_slice ht hval
  rcases open_slice ht hf with ⟨hcs, _⟩ | ⟨a, len', cap', m, n, D, Pl, hcs, hb, hl, hm, hmm, hx, hi⟩
  · simp [Value.cells] at hcs
    obtain ⟨rfl, rfl, rfl⟩ := hcs
    exact ⟨0, fun _ _ => undef, fun _ _ => .nil, ⟨none, 0, rfl, by omega, by unfold maxLen; omega, .inl rfl⟩, fun i hi => absurd hi (Nat.not_lt_zero _), .inl rfl⟩
  · simp [Value.cells] at hcs
    obtain ⟨rfl, rfl, rfl⟩ := hcs
    have hlm : len ≤ m := by rw [hmm]; split <;> omega
    by_cases h0 : len = 0
    · subst h0
      exact ⟨0, fun _ _ => undef, fun _ _ => .nil, ⟨some a, cap, rfl, by omega, hm, .inl rfl⟩, fun i hi => absurd hi (Nat.not_lt_zero _), .inl rfl⟩
    · have hex : ∀ i, i < len → ∃ (G : Nat → Value) (Z : Nat → DataW H), (∀ j, j < fs.size → w.cell? (a.add (i * fs.size + j)) = some (G j)) ∧ (∀ j f, fs[j]? = some f → ∃ m y, DataW.trod enc P w base spare held m f.type [G j] = some y ∧ y.1 = Z j) ∧
          ∃ parts, D i = DataW.agg parts ∧ ∀ j, j < fs.size → parts[j]? = some (Z j) := by
        intro i him
        obtain ⟨cs', hc, ht'⟩ := hi i (by omega)
        rw [hC] at hc
        obtain ⟨ys, n', hn', hy, hlen, hyl, hfj⟩ := DataW.trod_struct he ht'
        obtain ⟨_, hcl, hat⟩ := World.cells?_some hc
        refine ⟨fun j => cs'.getD j undef, fun j => (ys.getD j (.nil, [])).1, fun j hj => ?_, fun j f hj => ?_, ys.map (·.1), ?_, fun j hj => ?_⟩
        · have hv : cs'[j]? = some (cs'[j]'(by omega)) := List.getElem?_eq_getElem (by omega)
          have hjl : j < cs'.length := by omega
          have h9 := hat (i := j) (by omega)
          rw [Go.Deep.add_add] at h9
          rw [h9, hv]
          simp [hjl]
        · obtain ⟨ho, hk⟩ := hone_of hone j f hj
          have hjl : j < fs.size := (Array.getElem?_eq_some_iff.1 hj).1
          have h1 := hfj j f hj
          rw [ho, hk] at h1
          have hone' : (cs'.drop j).take 1 = [cs'[j]'(by omega)] := by
            rw [List.drop_eq_getElem_cons (by omega)]
            rfl
          rw [hone'] at h1
          have hys : ys[j]? = some (ys[j]'(by omega)) := List.getElem?_eq_getElem (by omega)
          refine ⟨n', ys[j]'(by omega), ?_, by simp [hys]⟩
          have : cs'.getD j undef = cs'[j]'(by omega) := by simp [List.getElem?_eq_getElem (show j < cs'.length by omega)]
          show DataW.trod enc P w base spare held n' f.type [cs'.getD j undef] = _
          rw [this]
          exact h1.trans hys
        · exact congrArg Prod.fst hy
        · have hys : ys[j]? = some (ys[j]'(by omega)) := List.getElem?_eq_getElem (by omega)
          rw [List.getElem?_map, hys]
          simp [hys]
      have hexF : ∃ (F : Nat → Nat → Value) (Y : Nat → Nat → DataW H), ∀ i, i < len → (∀ j, j < fs.size → w.cell? (a.add (i * fs.size + j)) = some (F i j)) ∧ (∀ j f, fs[j]? = some f → ∃ m y, DataW.trod enc P w base spare held m f.type [F i j] = some y ∧ y.1 = Y i j) ∧
          ∃ parts, D i = DataW.agg parts ∧ ∀ j, j < fs.size → parts[j]? = some (Y i j) := by
        have hex' : ∀ i, ∃ GZ : (Nat → Value) × (Nat → DataW H), i < len → (∀ j, j < fs.size → w.cell? (a.add (i * fs.size + j)) = some (GZ.1 j)) ∧ (∀ j f, fs[j]? = some f → ∃ m y, DataW.trod enc P w base spare held m f.type [GZ.1 j] = some y ∧ y.1 = GZ.2 j) ∧
            ∃ parts, D i = DataW.agg parts ∧ ∀ j, j < fs.size → parts[j]? = some (GZ.2 j) := fun i => by
          by_cases h : i < len
          · obtain ⟨G, Z, hGZ⟩ := hex i h
            exact ⟨(G, Z), fun _ => hGZ⟩
          · exact ⟨(fun _ => undef, fun _ => .nil), fun h' => absurd h' h⟩
        have hch := Classical.axiomOfChoice hex'
        obtain ⟨f, hf⟩ := hch
        exact ⟨fun i => (f i).1, fun i => (f i).2, fun i hi => hf i hi⟩
      obtain ⟨F, Y, hF⟩ := hexF
      have c0 := (hF 0 (by omega)).1 0 hpos
      have hsp : a.spot = none := by
        have := World.cell?_spot c0
        simpa [Addr.add] using this
      obtain ⟨b, o, sp⟩ := a
      simp only at hsp
      subst hsp
      have hadd : ∀ k, Addr.add ⟨b, o, none⟩ k = ⟨b, o + k, none⟩ := by
        intro k
        unfold Addr.add
        split
        · subst k; rfl
        · rfl
      refine ⟨len, F, Y, ⟨_, cap, rfl, hl, hm, .inr ⟨b, o, rfl, ?_, fun i h1 j h2 => ?_⟩⟩, fun i h1 j f hfj => (hF i h1).2.1 j f hfj, .inr ⟨_, _, congrArg Prod.fst hx, fun i h1 => ?_⟩⟩
      · have := cell_lt c0
        rwa [hadd] at this
      · have := (hF i h1).1 j h2
        rw [hadd, ← Nat.add_assoc] at this
        exact this
      · obtain ⟨parts, e1, e2⟩ := (hF i h1).2.2
        exact ⟨parts, e1 ▸ List.mem_map.2 ⟨i, List.mem_range.2 h1, rfl⟩, e2⟩
end

/-- A call. -/
structure OpS where
  kd : Int
  z : Int
  n : Int
  x : OcS
  fp : Option Addr
  fc : Nat
  F : List Int
def opT : RowT OpS := { ty := 37, sl := 22, sz := 5, bytes := 72, zero := .agg #[.int .i64 0, .int .i64 0, .int .u8 0, .slice none 0 0, .slice none 0 0], cells := fun o => opV o.kd o.z o.n o.x.a o.x.l.length o.x.cap o.fp o.F.length o.fc, dflt := ⟨0, 0, 0, ⟨none, 0, []⟩, none, 0, []⟩ }
structure OpS.ok (o : OpS) (W : World) : Prop where
  kw : (Lit.int .i64 o.kd).wf = true
  zw : (Lit.int .i64 o.z).wf = true
  z1 : o.z ≤ 9223372036854775807
  n0 : 0 ≤ o.n
  n1 : o.n ≤ 255
  x : o.x.there W
  F : RowOf fatT W o.fp o.F
  Fl : o.F.length ≤ 17592186044416
  Fw : ∀ f ∈ o.F, f ≤ 9223372036854775807
theorem wa_mem {H : Type} {P : Program} {e : TypeId} : ∀ {l : List (DataW H)} {d : DataW H}, d ∈ l → ∀ n ∈ d.weights P e, n ∈ DataW.weightsAll P e l
  | d' :: r, d, hd, n, hn => by
    simp only [DataW.weightsAll, List.mem_append]
    rcases List.mem_cons.1 hd with rfl | h
    · exact Or.inl hn
    · exact Or.inr (wa_mem h n hn)
theorem we_mem {H : Type} {P : Program} : ∀ {ts : List TypeId} {ds : List (DataW H)} {j : Nat} {t : TypeId} {d : DataW H}, ts[j]? = some t → ds[j]? = some d → ∀ n ∈ d.weights P t, n ∈ DataW.weightsEach P ts ds
  | t' :: ts, d' :: ds, 0, t, d, ht, hd, n, hn => by
    cases ht; cases hd
    simp only [DataW.weightsEach, List.mem_append]
    exact .inl hn
  | t' :: ts, d' :: ds, j + 1, t, d, ht, hd, n, hn => by
    simp only [DataW.weightsEach, List.mem_append]
    exact .inr (we_mem (ts := ts) (ds := ds) (j := j) (by simpa using ht) (by simpa using hd) n hn)
set_option maxRecDepth 100000 in
/-- Fates in a field. -/
theorem fated_in {H : Type} {enc : TypeId × Value → H} {W : World} {v : Value} {fuel : Nat} {x : DataW H × List MemPlace} (hf : DataW.trod enc Try.prog W 0 (fun _ => true) true fuel 29 [v] = some x) :
    ∃ (l : List Int) (a : Option Addr) (cap : Nat), v = .slice a l.length cap ∧ l.length ≤ cap ∧ cap ≤ maxLen ∧ RowOf fatT W a l ∧ (∀ f ∈ l, f ≤ 9223372036854775807) ∧ (l = [] ∨ ∃ el sp, x.1 = .slice el sp ∧ l.length ≤ el.length + sp.length) := by
  rcases open_ints Try.underlying29 Try.underlying3 (by kernel_rfl) hf with ⟨hcs, _⟩ | ⟨a, len, cap', zs, hcs, _, hl, hm, hz, hx, hcell, hwz⟩
  · simp at hcs
    subst hcs
    exact ⟨[], none, 0, rfl, Nat.le_refl _, Nat.zero_le _, .inl rfl, nofun, .inl rfl⟩
  · simp at hcs
    subst hcs
    simp only [if_true] at hz
    have hll : (zs.take len).length = len := by rw [List.length_take]; omega
    refine ⟨zs.take len, some a, cap', by rw [hll], by rw [hll]; exact hl, hm, ?_, fun f hf' => (bounds_i64 (hwz f (List.mem_of_mem_take hf'))).2, .inr ⟨_, _, congrArg Prod.fst hx, ?_⟩⟩
    · by_cases h0 : len = 0
      · subst h0; exact .inl (by simp)
      · have c0 := hcell 0 (by omega)
        have hsp : a.spot = none := by
          have := World.cell?_spot c0
          simpa [Addr.add] using this
        obtain ⟨b, o, sp⟩ := a
        simp only at hsp
        subst hsp
        refine .inr ⟨b, o, rfl, ?_, fun i hi j v hv => ?_⟩
        · have := cell_lt c0
          rwa [addr_plus] at this
        · rw [hll] at hi
          have hi' : i < zs.length := by omega
          have hj : j = 0 := by
            rcases j with _ | j
            · rfl
            · simp [fatT] at hv
          subst hj
          have hc := hcell i hi'
          rw [addr_plus] at hc
          have e0 : atR fatT (zs.take len) i = zs.getD i 0 := by
            rw [atR_eq _ i (by rw [hll]; exact hi)]
            simp [hi']
          have hv2 : Value.int .i64 (atR fatT (zs.take len) i) = v := Option.some.inj hv
          show W.cell? ⟨b, o + i * 1 + 0, none⟩ = _
          rw [show o + i * 1 + 0 = o + i by omega, hc, ← hv2, e0]
    · rw [hll]
      simp only [lits, List.length_map, List.length_take, List.length_drop]
      omega
set_option maxRecDepth 100000 in
/-- Octets in a field. -/
theorem octs_in {H : Type} {enc : TypeId × Value → H} {W : World} {v : Value} {fuel : Nat} {x : DataW H × List MemPlace} (hf : DataW.trod enc Try.prog W 0 (fun _ => true) true fuel 35 [v] = some x) :
    ∃ (l : List UInt8) (a : Option Addr) (cap : Nat), v = .slice a l.length cap ∧ l.length ≤ cap ∧ cap ≤ maxLen ∧ Octs W a l := by
  rcases open_ints Try.underlying35 Try.underlying5 (by kernel_rfl) hf with ⟨hcs, _⟩ | ⟨a, len, cap', zs, hcs, _, hl, hm, hz, hx, hcell, hwz⟩
  · simp at hcs
    subst hcs
    exact ⟨[], none, 0, rfl, Nat.le_refl _, Nat.zero_le _, .inl rfl⟩
  · simp at hcs
    subst hcs
    simp only [if_true] at hz
    have hll : ((zs.take len).map fun z => UInt8.ofNat z.toNat).length = len := by rw [List.length_map, List.length_take]; omega
    refine ⟨(zs.take len).map fun z => UInt8.ofNat z.toNat, some a, cap', by rw [hll], by rw [hll]; exact hl, hm, ?_⟩
    by_cases h0 : len = 0
    · subst h0; exact .inl (by simp)
    · have c0 := hcell 0 (by omega)
      have hsp : a.spot = none := by
        have := World.cell?_spot c0
        simpa [Addr.add] using this
      obtain ⟨b, o, sp⟩ := a
      simp only at hsp
      subst hsp
      refine .inr ⟨b, o, rfl, ?_, fun i hi => ?_⟩
      · have := cell_lt c0
        rwa [addr_plus] at this
      · rw [hll] at hi
        have hi' : i < zs.length := by omega
        have hc := hcell i hi'
        have hb := bounds_u8 (hwz zs[i] (List.getElem_mem hi'))
        rw [addr_plus] at hc
        rw [hc]
        have e1 : zs.getD i 0 = zs[i] := by simp [hi']
        rw [e1]
        simp only [List.getElem_map, List.getElem_take]
        rw [byte_ofNat]
        congr 2
        omega
set_option maxRecDepth 100000 in
/-- A slice of calls that comes in. -/
theorem opl_of {H : Type} {enc : TypeId × Value → H} {W : World} {b0 : Nat} {v : Value} {d : DataW H} {p : List MemPlace} (hv : Value.okWide Try.prog W .any b0 22 v) (h : DataW.Trod enc Try.prog W 0 (fun _ => true) true 22 v d p) {ts : List TypeId} {ds : List (DataW H)}
    (hsz : (DataW.weightsEach Try.prog ts ds).all (· ≤ reachBytes) = true) {j : Nat} (htj : ts[j]? = some 22) (hdj : ds[j]? = some d) :
    ∃ (l : List OpS) (a : Option Addr) (cap : Nat), v = .slice a l.length cap ∧ l.length ≤ cap ∧ cap ≤ maxLen ∧ RowOf opT W a l ∧ ∀ o ∈ l, o.ok W := by
  obtain ⟨n, F, Y, ⟨q, cap, hv, h1, h2, h3⟩, hF, hD⟩ := sl_ofd Try.underlying22 Try.underlying37 (by kernel_rfl) (by kernel_rfl) (by decide) hv h
  have each : ∀ i, i < n → ∃ o : OpS, [F i 0, F i 1, F i 2, F i 3, F i 4] = opT.cells o ∧ o.ok W := by
    intro i hi
    obtain ⟨m0, y0, t0, _⟩ := hF i hi 0 _ rfl
    obtain ⟨m1, y1, t1, _⟩ := hF i hi 1 _ rfl
    obtain ⟨m2, y2, t2, _⟩ := hF i hi 2 _ rfl
    obtain ⟨m3, y3, t3, _⟩ := hF i hi 3 _ rfl
    obtain ⟨m4, y4, t4, e4⟩ := hF i hi 4 _ rfl
    obtain ⟨k, e0, _, w0⟩ := DataW.trod_int Try.underlying3 t0
    obtain ⟨z, e1, _, w1⟩ := DataW.trod_int Try.underlying3 t1
    obtain ⟨c, e2, _, w2⟩ := DataW.trod_int Try.underlying5 t2
    simp at e0 e1 e2
    have g2 := bounds_u8 w2
    obtain ⟨lx, ax, cx, e3, hx1, hx2, hx3⟩ := octs_in t3
    obtain ⟨F4, qa, fc, e4', f1, f2, RF, fz, hd4⟩ := fated_in t4
    refine ⟨⟨k, z, c, ⟨ax, cx, lx⟩, qa, fc, F4⟩, by rw [e0, e1, e2, e3, e4']; rfl, ⟨w0, w1, (bounds_i64 w1).2, g2.1, g2.2, ⟨hx3, hx1, hx2⟩, RF, ?_, fz⟩⟩
    rcases hD with h0 | ⟨el, sp, rfl, hel⟩
    · omega
    · obtain ⟨parts, hp, hpj⟩ := hel i hi
      have hY := hpj 4 (by decide)
      rcases hd4 with h0 | ⟨el4, sp4, hd4, hl4⟩
      · rw [h0]; simp
      · rw [← e4, hd4] at hY
        have hm : (el4.length + sp4.length) * Try.prog.bytesOf 3 ∈ DataW.weights Try.prog 37 (.agg parts : DataW H) := by
          simp only [DataW.weights, Try.underlying37]
          exact we_mem (j := 4) (t := 29) rfl hY _ (by simp [DataW.weights, Try.underlying29])
        have hm2 : (el4.length + sp4.length) * Try.prog.bytesOf 3 ∈ DataW.weights Try.prog 22 (.slice el sp : DataW H) := by
          simp only [DataW.weights, Try.underlying22, List.mem_cons, List.mem_append]
          exact .inr (.inl (wa_mem hp _ hm))
        have := of_decide_eq_true (List.all_eq_true.1 hsz _ (DataW.weights_mem_each htj hdj _ hm2))
        rw [bytes_i64'] at this
        simp only [reachBytes] at this
        show F4.length ≤ 17592186044416
        omega
  have hg : ∃ g : Nat → OpS, ∀ i, i < n → [F i 0, F i 1, F i 2, F i 3, F i 4] = opT.cells (g i) ∧ (g i).ok W := by
    haveI : Nonempty OpS := ⟨opT.dflt⟩
    exact ⟨fun i => Classical.epsilon fun s => [F i 0, F i 1, F i 2, F i 3, F i 4] = opT.cells s ∧ s.ok W, fun i hi => Classical.epsilon_spec (each i hi)⟩
  obtain ⟨g, hg⟩ := hg
  have hlen : ((List.range n).map g).length = n := by simp
  refine ⟨(List.range n).map g, q, cap, by rw [hlen]; exact hv, by rw [hlen]; exact h1, h2, ?_, fun s hs => ?_⟩
  · unfold RowOf
    rw [hlen]
    refine h3.imp id fun ⟨b, o, e, hlt, hc⟩ => ⟨b, o, e, hlt, fun i hi j v hv => ?_⟩
    have e1 : atR opT ((List.range n).map g) i = g i := by rw [atR_eq _ i (by rw [hlen]; exact hi)]; simp
    have hv' : (opT.cells (g i))[j]? = some v := by rw [← e1]; exact hv
    rw [← (hg i hi).1] at hv'
    match j, hv' with
    | 0, hv => simp at hv; subst hv; exact hc i hi 0 (by decide)
    | 1, hv => simp at hv; subst hv; exact hc i hi 1 (by decide)
    | 2, hv => simp at hv; subst hv; exact hc i hi 2 (by decide)
    | 3, hv => simp at hv; subst hv; exact hc i hi 3 (by decide)
    | 4, hv => simp at hv; subst hv; exact hc i hi 4 (by decide)
  · obtain ⟨i, hi, rfl⟩ := List.mem_map.1 hs
    exact (hg i (List.mem_range.1 hi)).2
end Go.Proofs.Ytpgibngohbohdaa

/-
  The law of the disk: a step: Power.
-/

namespace Go.Proofs.Ytpgibngohbohdaa
open Go.RowKit Go.Maps
set_option linter.unusedVariables false
set_option linter.unusedSimpArgs false

theorem fat_low {w : World} {p : Option Addr} {L : List Int} (h : RowOf fatT w p L) : ∀ b o, p = some ⟨b, o, none⟩ → L.length ≠ 0 → b < w.heap.size := fun b o e hn => by
  rcases h with h0 | ⟨b', o', e', R⟩
  · exact absurd h0 hn
  · rw [e] at e'; cases e'; exact R.lt
/-- What Power leaves, where it is on. -/
def PowG (W0 : World) (b : Nat) (m : DM) (K : Nat → Prop) (Fs : List Int) (m2 : DM) (K2 : Nat → Prop) (w2 : World) : Prop :=
  ∃ L DO n', m2 = (m.moved L DO n').clean ∧ SetD m Fs L DO n' ∧ (∀ k, K2 k → K k ∨ W0.heap.size ≤ k) ∧ Sole K W0 w2
theorem pow_on (B : Nat) (w : World) (b rx : Nat) (m : DM) (K : Nat → Prop) (r : RM) (J : Nat → Prop) (T : Two B w b rx m K r J) (ho : m.off = false) (i : Nat) (hf : m.few i) (hi : i ≤ 100000) (fp : Option Addr) (fc : Nat) (Fs : List Int) (RF : RowOf fatT w fp Fs) (hl : Fs.length ≤ 17592186044416) (hFw : ∀ f ∈ Fs, f ≤ 9223372036854775807)
    (hlow : ∀ b' o, fp = some ⟨b', o, none⟩ → Fs.length ≠ 0 → b' < B) :
    Calls Try.prog 32 #[.pointer (some ⟨b, 0, none⟩), .slice fp Fs.length fc] w fun e w' => e = .returned (.tuple #[]) ∧ ∃ m2 K2 w2, DiskM w' b m2.reset K2 ∧ Sole (fun k => k = b) w2 w' ∧ DiskM w2 b m2 K2 ∧ PowG w b m K Fs m2 K2 w2 :=
  power_on (G := fun m2 K2 w2 => PowG w b m K Fs m2 K2 w2) m b K w T.D ho fp Fs.length fc
    ((settle_any m b K w T.D fp fc Fs RF (by unfold maxLen; omega) (fun b' o e hn h => by
      have h1 := hlow b' o e hn
      rcases h with h | h
      · have := T.KB b' (T.D.kk b' (.inr (.inr (.inr (.inl h))))); omega
      · have := T.KB b' (T.D.kk b' (.inr (.inr (.inl h)))); omega) hFw (by have := hf.2; omega)).mono
      fun e w2 ⟨he, L, DO, n', K', D2, ST, S2⟩ => ⟨he, _, K', D2, L, DO, n', rfl, ⟨⟨ST.S, ST.O⟩, ST.n⟩, ST.K, S2⟩)
set_option maxRecDepth 100000 in
set_option maxHeartbeats 2000000 in
theorem step_power (wa w : World) (hB : Below wa.heap.size wa w) (b rx : Nat) (m : DM) (K : Nat → Prop) (r : RM) (J : Nat → Prop) (T : Two wa.heap.size w b rx m K r J) (S : Sim m r) (i : Nat) (hf : m.few i) (hi : i ≤ 100000)
    (kd z n : Int) (hk : KindOf kd 4) (da : Option Addr) (dl dc : Nat) (fp : Option Addr) (fc : Nat) (Fs : List Int) (RF : RowOf fatT wa fp Fs) (hl : Fs.length ≤ 17592186044416) (hFw : ∀ f ∈ Fs, f ≤ 9223372036854775807) :
    Calls Try.prog 10 #[.pointer (some ⟨b, 0, none⟩), .pointer (some ⟨rx, 0, none⟩), .agg (opV kd z n da dl dc fp Fs.length fc).toArray] w fun e w' => e = .returned (.bool true) ∧ StepW wa.heap.size w b rx i w' := by
  obtain ⟨u, hk1, hk2⟩ := hk
  have b0 : Below w.heap.size w (w.alloc (.cells (opV kd z n da dl dc fp Fs.length fc).toArray 37)) := rbelow_one _ _
  have B0 := Blk.new w (opV kd z n da dl dc fp Fs.length fc).toArray 37
  have T0 := T.more b0
  have hKl := hid (fun k (hk : K k) => T.D.klt k hk)
  have hxl := hid T.P.lt
  generalize hW0 : w.alloc (.cells (opV kd z n da dl dc fp Fs.length fc).toArray 37) = W0 at *
  have Th := hid T0
  have Sh := hid S
  have fh := hid hf
  have ba := hid (below2 hB b0 hB.size)
  have b0h := hid (b0.mono hB.size)
  have Bh := hid B0
  have P0 := T0.P
  have RFh := hid RF
  have hlh := hid hl
  have hFh := hid hFw
  have hBW := hid (Nat.le_trans hB.size b0.size)
  have s0 := b0.size
  cases hoff : r.off with
  | true =>
    have KP := hid (power_off m b K W0 T0.D (S.off.trans hoff) fp Fs.length fc)
    simp only [RM.cells, rdv] at P0
    clear T T0 S hf hB b0 RF hFw
    obtain ⟨l0, m0, f0⟩ := B0
    obtain ⟨l1, m1, f1⟩ := P0
    generalize hfn : Fs.length = fl at *
    by_cases hz0 : 0 ≤ z
    all_goals
      have hz0' := hz0
      go_enter Try.func10, Try.ntmps10
      go_wp2_with fail
      refine KP.out.mono ?_
      rintro e w2 ⟨rfl, D2, S2⟩
      have T2 := Th.out.disk hBW.out D2 S2 (fun k hk => .inl hk)
      have s2 := S2.size
      have b2 := b0h.out.trans (Th.out.low hBW.out S2)
      have B2 := Bh.out.sole S2 (fun e => by have := hKl.out _ e; omega)
      have P2 := T2.P
      have T3 := T2.cell 3 (.bool false) { r with off := false } (by decide) (fun W' J' h => h.scal false r.cut r.fail) (by simp [RM.cells, rdv])
      have T4 := T3.cell 4 (.int .i64 0) { r with off := false, cut := 0 } (by decide) (fun W' J' h => h.scal false 0 r.fail) (by simp [RM.cells, rdv])
      have T5 := T4.cell 6 (.int .i64 (-1)) { r with off := false, cut := 0, fail := -1 } (by decide) (fun W' J' h => h.scal false 0 (-1)) (by simp [RM.cells, rdv])
      have hw2 := Nat.le_trans hBW.out s2
      have h3 := T2.cell_low hw2 3 (.bool false)
      have h4 := T3.cell_low (Nat.le_trans hw2 h3.size) 4 (.int .i64 0)
      have h5 := T4.cell_low (Nat.le_trans (Nat.le_trans hw2 h3.size) h4.size) 6 (.int .i64 (-1))
      have E := hid (show StepW wa.heap.size w b rx i _ from ⟨_, K, _, J, T5, Sh.out.reset, DM.few.succ (show m.reset.few i from fh.out), ((b2.trans h3).trans h4).trans h5⟩)
      simp only [RM.cells, rdv, hoff] at P2
      clear T2 S2 D2 KP l0 m0 f0 l1 m1 f1 hoff T3 T4 T5 h3 h4 h5 b2
      obtain ⟨l0, m0, f0⟩ := B2
      obtain ⟨l1, m1, f1⟩ := P2
      go_wp2_with fail
      go_ret
      exact ⟨rfl, E.out⟩
  | false =>
    have KP := hid (pow_on wa.heap.size W0 b rx m K r J T0 (S.off.trans hoff) i hf hi fp fc Fs (RowOf.more RF ba.out) hl hFw (fat_low RF))
    simp only [RM.cells, rdv] at P0
    clear T T0 S hf hB b0 RF hFw hl
    obtain ⟨l0, m0, f0⟩ := B0
    obtain ⟨l1, m1, f1⟩ := P0
    by_cases hz0 : 0 ≤ z
    all_goals
      have hz0' := hz0
      go_enter Try.func10, Try.ntmps10
      go_wp2_with fail
      refine KP.out.mono ?_
      rintro e w2 ⟨rfl, m2, K2, w2', D2, S2, D2', L, DO, n', rfl, hSD, hK2, S2'⟩
      have SS := S2'.trans (S2.mono (T := K) fun k _ e => e ▸ Th.out.D.kk b (.inl rfl))
      have T2 := Th.out.disk hBW.out D2 SS hK2
      have s2 := SS.size
      have b2 := hid (b0h.out.trans (Th.out.low hBW.out SS))
      have ba2 := ba.out.trans (Th.out.low hBW.out SS)
      have B2 := Bh.out.sole SS (fun e => by have := hKl.out _ e; omega)
      have P2 := T2.P
      have RF2 := RowOf.more RFh.out ba2
      have KS := hid (fun W (hb : Below w2.heap.size w2 W) => rsettle_any r J W (T2.R.more hb) fp fc Fs (RowOf.more RF2 hb) hlh.out hFh.out)
      have T2h := hid T2
      have hSDh := hid hSD
      simp only [RM.v, RM.cells, rdv, hoff] at KS
      simp only [RM.cells, rdv, hoff] at P2
      have B2h := hid B2
      have P2h := hid P2
      clear T2 S2 S2' SS D2 D2' KP l0 m0 f0 l1 m1 f1 hSD hK2 RF2 ba2
      obtain ⟨l0, m0, f0⟩ := B2
      obtain ⟨l1, m1, f1⟩ := P2
      go_wp2_with fail
      have KS1 := hid (KS.out w2.drew (Below.refl _ _).drew)
      have Td := hid (T2h.out.more (Below.refl _ _).drew)
      have Bd := hid (B2h.out.more (Below.refl _ _).drew)
      have bd := hid (b2.out.trans ((Below.refl w2.heap.size w2).drew.mono (Nat.le_trans hBW.out s2)))
      have hwd := hid (show wa.heap.size ≤ w2.drew.heap.size from Nat.le_trans hBW.out s2)
      go_region_law (first
        | (go_simp; (with_reducible refine KS1.out.mono ?_); rintro e w5 ⟨p0, c0, L5, p2, c2, O5, rfl, hL5, R5, hb5, hsd5⟩; have EE := hid (And.intro R5 (And.intro hb5 hsd5)); obtain ⟨l5, m5, f5⟩ := P2h.out.more ((Below.refl _ _).drew.trans hb5); clear R5 hb5 hsd5 hL5))
      all_goals
        have T3 := Td.out.ref EE.out.2.1 EE.out.1
        have hs5 := Sh.out.settled Fs hSDh.out EE.out.2.2
        have h2 := Td.out.ref_low hwd.out EE.out.2.1 (RM.cells (r.sec p0 c0 L5 p2 c2 O5).clean)
        have P6 := T3.P
        have T4 := T3.cell 3 (.bool false) { (r.sec p0 c0 L5 p2 c2 O5).clean with off := false } (by decide) (fun W' J' h => h.scal false r.cut r.fail) (by simp [RM.cells, rdv])
        have T5 := T4.cell 4 (.int .i64 0) { (r.sec p0 c0 L5 p2 c2 O5).clean with off := false, cut := 0 } (by decide) (fun W' J' h => h.scal false 0 r.fail) (by simp [RM.cells, rdv])
        have T6 := T5.cell 6 (.int .i64 (-1)) { (r.sec p0 c0 L5 p2 c2 O5).clean with off := false, cut := 0, fail := -1 } (by decide) (fun W' J' h => h.scal false 0 (-1)) (by simp [RM.cells, rdv])
        have hw2 := Nat.le_trans hwd.out h2.size
        have h3 := T3.cell_low hw2 3 (.bool false)
        have h4 := T4.cell_low (Nat.le_trans hw2 h3.size) 4 (.int .i64 0)
        have h5 := T5.cell_low (Nat.le_trans (Nat.le_trans hw2 h3.size) h4.size) 6 (.int .i64 (-1))
        have E := hid (show StepW wa.heap.size w b rx i _ from ⟨_, _, _, _, T6, hs5.reset, DM.few.succ (show (m.moved L DO n').clean.reset.few i from ⟨Nat.zero_le _, Nat.le_trans hSDh.out.2 fh.out.2⟩), (((bd.out.trans h2).trans h3).trans h4).trans h5⟩)
        clear T3 hs5 h2 T4 T5 T6 hw2 h3 h4 h5 EE l0 m0 f0 l1 m1 f1 l5 m5 f5 KS KS1 Td Bd bd B2h P2h
        simp only [setAll, RM.cells, rdv, hoff, Nat.zero_add, Nat.reduceAdd] at P6 E
        generalize World.setCell (World.setCell (World.setCell (World.setCell (World.setCell (World.setCell (World.setCell w5 _ _) _ _) _ _) _ _) _ _) _ _) _ _ = W6 at *
        obtain ⟨l6, m6, f6⟩ := P6
        go_wp2_with fail
        go_ret
        exact ⟨rfl, E.out⟩
end Go.Proofs.Ytpgibngohbohdaa

/-
  The law of the disk: a step: Cut.
-/

namespace Go.Proofs.Ytpgibngohbohdaa
open Go.RowKit Go.Maps
set_option linter.unusedVariables false
set_option linter.unusedSimpArgs false

/-- When the power goes is told to the document's. -/
theorem Two.fates {B : Nat} {w w1 : World} {b rx : Nat} {m : DM} {K : Nat → Prop} {r : RM} {J : Nat → Prop} (h : Two B w b rx m K r J) (hb : Below w.heap.size w w1) {g c : Nat} {Fs : List Int} (O : RowOwn fatT w1 w.heap.size (.slice (some ⟨g, 0, none⟩) Fs.length c) Fs) (hl : Fs.length ≤ 17592186044416) (z : Int) :
    Two B ((w1.setCell ⟨rx, 4, none⟩ (.int .i64 z)).setCell ⟨rx, 5, none⟩ (.slice (some ⟨g, 0, none⟩) Fs.length c)) b rx m K { r with cut := z, p5 := some ⟨g, 0, none⟩, c5 := c, F := Fs } (JN J w w1) := by
  have S : Sole (fun k => k = rx) w1 ((w1.setCell ⟨rx, 4, none⟩ (.int .i64 z)).setCell ⟨rx, 5, none⟩ (.slice (some ⟨g, 0, none⟩) Fs.length c)) := (Sole.setCell (S := fun k => k = rx) w1 (b := rx) (o := 4) _ rfl).trans (Sole.setCell _ (b := rx) (o := 5) _ rfl)
  have hx := h.P.lt
  have hjx : ¬ JN J w w1 rx := fun e => e.elim h.Jx (fun x => by omega)
  have hg := O.within g rfl
  have R1 := (h.R.more hb).wide (fun k hk => (.inl hk : JN J w w1 k)) (jn_lt hb.size h.R.jlt)
  have R2 : RefM w1 { r with cut := z, p5 := some ⟨g, 0, none⟩, c5 := c, F := Fs } (JN J w w1) :=
    ⟨R1.L, R1.Q, R1.O, row_of fatOk O, R1.LO, R1.QO, R1.lO, R1.lL, R1.lQ, hl, R1.j0, R1.j1, R1.j2, fun b o e => by cases e; exact .inr hg, R1.jlt⟩
  refine ⟨(h.D.more hb).kept S (fun k hk e => h.Kx (e ▸ hk)), ?_, R2.sole S (fun k hk e => hjx (e ▸ hk)), h.KB, h.xB, fun k hk hj => hj.elim (h.KJ k hk) (fun x => by have := h.D.klt k hk; omega), h.Kx, hjx⟩
  have := ((h.P.more hb).set 4 (.int .i64 z) (by simp)).set 5 (.slice (some ⟨g, 0, none⟩) Fs.length c) (by simp)
  simpa [RM.cells, rdv] using this
theorem Two.fates_low {B : Nat} {w w1 : World} {b rx : Nat} {m : DM} {K : Nat → Prop} {r : RM} {J : Nat → Prop} (h : Two B w b rx m K r J) (hB : B ≤ w.heap.size) (hb : Below w.heap.size w w1) (u v : Value) : Below B w ((w1.setCell ⟨rx, 4, none⟩ u).setCell ⟨rx, 5, none⟩ v) :=
  (hb.mono hB).trans (((Sole.setCell (S := fun k => k = rx) w1 (b := rx) (o := 4) u rfl).trans (Sole.setCell _ (b := rx) (o := 5) v rfl)).below (B := B) (Nat.le_trans hB hb.size) fun k e => e ▸ h.xB)
/-- Cut, where the power is on. -/
theorem cut_any (m : DM) (b : Nat) (K : Nat → Prop) (w : World) (D : DiskM w b m K) (ho : m.off = false) (i : Nat) (hf : m.few i) (hi : i ≤ 100000) (z : Int) (hz : (Lit.int .i64 z).wf = true) (p : Option Addr) (cap : Nat) (Fs : List Int) (hl : Fs.length ≤ 17592186044416) (RF : RowOf fatT w p Fs) (hFw : ∀ f ∈ Fs, f ≤ 9223372036854775807) :
    Calls Try.prog 40 #[.pointer (some ⟨b, 0, none⟩), .int .i64 z, .slice p Fs.length cap] w fun e w' => e = .returned (.tuple #[]) ∧ ∃ q c m' K', Goz (m.toldCut z q c Fs) m' ∧ DiskM w' b m' K' ∧ Sole K w w' ∧ ∀ k, K' k → K k ∨ w.heap.size ≤ k :=
  (cut_on (G := fun K1 m1 w1 w' => GozW b K1 m1 w1 w') m b K w D ho z hz p cap Fs hl RF (fun q c w1 K1 D1 => goz_any _ b K1 w1 D1 (fun _ => hFw) (by have := hf.2; show m.n' + m.Qs.length < _; omega))).mono
    fun e w' ⟨he, q, c, w1, K1, D1, S1, hK1, m', K', D', hG, _, S', hK'⟩ => ⟨he, q, c, m', K', hG, D', S1.trans' S' (fun k hk e => (hK1 k e).resolve_right (by omega)), fun k hk => (hK' k hk).elim (fun x => hK1 k x) (fun x => .inr (Nat.le_trans S1.size x))⟩
set_option maxRecDepth 100000 in
set_option maxHeartbeats 2000000 in
theorem step_cut (wa w : World) (hB : Below wa.heap.size wa w) (b rx : Nat) (m : DM) (K : Nat → Prop) (r : RM) (J : Nat → Prop) (T : Two wa.heap.size w b rx m K r J) (S : Sim m r) (i : Nat) (hf : m.few i) (hi : i ≤ 100000)
    (kd z n : Int) (hk : KindOf kd 3) (hz : (Lit.int .i64 z).wf = true) (hzm : z ≤ 9223372036854775807) (da : Option Addr) (dl dc : Nat) (fp : Option Addr) (fc : Nat) (Fs : List Int) (RF : RowOf fatT wa fp Fs) (hl : Fs.length ≤ 17592186044416) (hFw : ∀ f ∈ Fs, f ≤ 9223372036854775807) :
    Calls Try.prog 10 #[.pointer (some ⟨b, 0, none⟩), .pointer (some ⟨rx, 0, none⟩), .agg (opV kd z n da dl dc fp Fs.length fc).toArray] w fun e w' => e = .returned (.bool true) ∧ StepW wa.heap.size w b rx i w' := by
  obtain ⟨u, hk1, hk2⟩ := hk
  have b0 : Below w.heap.size w (w.alloc (.cells (opV kd z n da dl dc fp Fs.length fc).toArray 37)) := rbelow_one _ _
  have B0 := Blk.new w (opV kd z n da dl dc fp Fs.length fc).toArray 37
  have T0 := T.more b0
  have hKl := hid (fun k (hk : K k) => T.D.klt k hk)
  have hxl := hid T.P.lt
  generalize hW0 : w.alloc (.cells (opV kd z n da dl dc fp Fs.length fc).toArray 37) = W0 at *
  have Th := hid T0
  have Sh := hid S
  have fh := hid hf
  have ba := hid (below2 hB b0 hB.size)
  have b0h := hid (b0.mono hB.size)
  have Bh := hid B0
  have P0 := T0.P
  have RFh := hid RF
  have hlh := hid hl
  have hFh := hid hFw
  have hBW := hid (Nat.le_trans hB.size b0.size)
  have s0 := b0.size
  have hzmh := hid hzm
  cases hoff : r.off with
  | true =>
    have KP := hid (cut_off m b W0 T0.D.blk (S.off.trans hoff) (.int .i64 z) (.slice fp Fs.length fc))
    have E := hid (show StepW wa.heap.size w b rx i W0 from ⟨m, K, r, J, T0, S, DM.few.succ hf, b0h.out⟩)
    simp only [RM.cells, rdv, hoff] at P0
    clear T T0 S hf hB b0 RF hFw
    obtain ⟨l0, m0, f0⟩ := B0
    obtain ⟨l1, m1, f1⟩ := P0
    by_cases hz0 : 0 ≤ z
    all_goals
      have hz0' := hz0
      go_enter Try.func10, Try.ntmps10
      go_wp2_with fail
      refine KP.out.mono ?_
      rintro e w2 ⟨rfl, hw2⟩
      rw [hw2]
      clear hw2 w2
      go_wp2_with fail
      go_ret
      exact ⟨rfl, E.out⟩
  | false =>
    have KP := hid (cut_any m b K W0 T0.D (S.off.trans hoff) i hf hi z hz fp fc Fs hl (RowOf.more RF ba.out) hFw)
    simp only [RM.cells, rdv] at P0
    clear T T0 S hf hB b0 RF hFw hl
    obtain ⟨l0, m0, f0⟩ := B0
    obtain ⟨l1, m1, f1⟩ := P0
    by_cases hz0 : z ≤ 0
    · have hze : 0 ≤ z ∨ ¬ 0 ≤ z := Decidable.em _
      rcases hze with hze | hze
      all_goals
        go_enter Try.func10, Try.ntmps10
        go_wp2_with fail
        refine KP.out.mono ?_
        rintro e w2 ⟨rfl, q, c, m', K2, hG, D2, SS, hK2⟩
        have hG2 : ∃ L DO n', m' = ((m.toldCut z q c Fs).moved L DO n').clean.gone ∧ SetD (m.toldCut z q c Fs) Fs L DO n' := by
          rcases hG with ⟨x, _⟩ | ⟨_, x⟩
          · exact absurd ⟨rfl, hz0⟩ x
          · exact x
        obtain ⟨L, DO, n', rfl, hSD⟩ := hG2
        have T2 := Th.out.disk hBW.out D2 SS hK2
        have s2 := SS.size
        have b2 := hid (b0h.out.trans (Th.out.low hBW.out SS))
        have ba2 := ba.out.trans (Th.out.low hBW.out SS)
        have B2 := Bh.out.sole SS (fun e => by have := hKl.out _ e; omega)
        have P2 := T2.P
        have RF2 := RowOf.more RFh.out ba2
        have KS := hid (fun W (hb : Below w2.heap.size w2 W) => rsettle_any r J W (T2.R.more hb) fp fc Fs (RowOf.more RF2 hb) hlh.out hFh.out)
        have T2h := hid T2
        have hSDh := hid (show SetD m Fs L DO n' from hSD)
        simp only [RM.v, RM.cells, rdv, hoff] at KS
        simp only [RM.cells, rdv, hoff] at P2
        have B2h := hid B2
        have P2h := hid P2
        clear T2 SS D2 KP l0 m0 f0 l1 m1 f1 hSD hK2 RF2 ba2 hG
        obtain ⟨l0, m0, f0⟩ := B2
        obtain ⟨l1, m1, f1⟩ := P2
        go_wp2_with fail
        have KS1 := hid (KS.out w2.drew (Below.refl _ _).drew)
        have Td := hid (T2h.out.more (Below.refl _ _).drew)
        have Bd := hid (B2h.out.more (Below.refl _ _).drew)
        have bd := hid (b2.out.trans ((Below.refl w2.heap.size w2).drew.mono (Nat.le_trans hBW.out s2)))
        have hwd := hid (show wa.heap.size ≤ w2.drew.heap.size from Nat.le_trans hBW.out s2)
        go_region_law (first
          | (go_simp; (with_reducible refine KS1.out.mono ?_); rintro e w5 ⟨p0, c0, L5, p2, c2, O5, rfl, hL5, R5, hb5, hsd5⟩; have EE := hid (And.intro R5 (And.intro hb5 hsd5)); obtain ⟨l5, m5, f5⟩ := P2h.out.more ((Below.refl _ _).drew.trans hb5); clear R5 hb5 hsd5 hL5))
        all_goals
          have T3 := Td.out.ref EE.out.2.1 EE.out.1
          have hs5 := Sh.out.settled Fs hSDh.out EE.out.2.2
          have h2 := Td.out.ref_low hwd.out EE.out.2.1 (RM.cells (r.sec p0 c0 L5 p2 c2 O5).clean)
          have P6 := T3.P
          have T4 := T3.cell 3 (.bool true) { (r.sec p0 c0 L5 p2 c2 O5).clean with off := true } (by decide) (fun W' J' h => h.scal true r.cut r.fail) (by simp [RM.cells, rdv])
          have T5 := T4.cell 4 (.int .i64 0) { (r.sec p0 c0 L5 p2 c2 O5).clean with off := true, cut := 0 } (by decide) (fun W' J' h => h.scal true 0 r.fail) (by simp [RM.cells, rdv])
          have hw2 := Nat.le_trans hwd.out h2.size
          have h3 := T3.cell_low hw2 3 (.bool true)
          have h4 := T4.cell_low (Nat.le_trans hw2 h3.size) 4 (.int .i64 0)
          have E := hid (show StepW wa.heap.size w b rx i _ from ⟨_, _, _, _, T5, hs5.gone, DM.few.succ (show (m.moved L DO n').clean.gone.few i from ⟨Nat.zero_le _, Nat.le_trans hSDh.out.2 fh.out.2⟩), ((bd.out.trans h2).trans h3).trans h4⟩)
          clear T3 hs5 h2 T4 T5 hw2 h3 h4 EE l0 m0 f0 l1 m1 f1 l5 m5 f5 KS KS1 Td Bd bd B2h P2h
          simp only [setAll, RM.cells, rdv, hoff, Nat.zero_add, Nat.reduceAdd] at P6 E
          generalize World.setCell (World.setCell (World.setCell (World.setCell (World.setCell (World.setCell (World.setCell w5 _ _) _ _) _ _) _ _) _ _) _ _) _ _ = W6 at *
          obtain ⟨l6, m6, f6⟩ := P6
          go_wp2_with fail
          go_ret
          exact ⟨rfl, E.out⟩
    · have hz1 : 0 ≤ z := by omega
      go_enter Try.func10, Try.ntmps10
      go_wp2_with fail
      refine KP.out.mono ?_
      rintro e w2 ⟨rfl, q, c, m', K2, hG, D2, SS, hK2⟩
      have hG2 : m' = m.toldCut z q c Fs := by
        rcases hG with ⟨_, x⟩ | ⟨x, _⟩
        · exact x
        · have h9 : z ≤ 0 := x.2
          exact absurd h9 (by omega)
      subst hG2
      have T2 := Th.out.disk hBW.out D2 SS hK2
      have s2 := SS.size
      have b2 := hid (b0h.out.trans (Th.out.low hBW.out SS))
      have ba2 := ba.out.trans (Th.out.low hBW.out SS)
      have B2 := Bh.out.sole SS (fun e => by have := hKl.out _ e; omega)
      have Td := T2.more (Below.refl _ _).drew
      obtain ⟨g, d, w6, hr, O6, b6, hg1, hg2⟩ := copy_row fatOk w2.drew _ rfl fp fc Fs (RowOf.more (RowOf.more RFh.out ba2) (Below.refl _ _).drew) (by show Fs.length * 8 ≤ _; have := hlh.out; omega) (by unfold maxLen; have := hlh.out; omega)
      have hwd : wa.heap.size ≤ w2.drew.heap.size := Nat.le_trans hBW.out s2
      have T6 := Td.fates b6 O6 hlh.out z
      have h6 := Td.fates_low hwd b6 (.int .i64 z) (.slice (some ⟨g, 0, none⟩) Fs.length d)
      have E := hid (show StepW wa.heap.size w b rx i _ from ⟨_, _, _, _, T6, Sh.out.told hoff z (by omega) hzmh.out Fs hFh.out q c (some ⟨g, 0, none⟩) d, DM.few.succ (show (m.toldCut z q c Fs).few i from fh.out), (b2.out.trans ((Below.refl w2.heap.size w2).drew.mono hwd)).trans h6⟩)
      have P2 := T2.P
      have P6 := Td.P.more b6
      have B6 := (B2.more (Below.refl _ _).drew).more b6
      have PA := T2.P.alloc (.cells #[] 3)
      have BA := B2.alloc (.cells #[] 3)
      have hr' := fun ty => show (Builtin.append_ #[29, 29] ty #[.slice (some ⟨w2.heap.size, 0, none⟩) 0 0, .slice fp Fs.length fc]).run Try.prog (w2.alloc (.cells #[] 3)).drew = .ok (.slice (some ⟨g, 0, none⟩) Fs.length d) w6 from hr ty
      simp only [RM.cells, rdv, hoff] at P2 P6 PA
      clear T2 Td SS D2 KP l0 m0 f0 l1 m1 f1 hK2 ba2 hG hr O6 b6 hg1 hg2 T6 h6 hwd
      obtain ⟨l0, m0, f0⟩ := B2
      obtain ⟨l1, m1, f1⟩ := P2
      obtain ⟨l2, m2, f2⟩ := PA
      obtain ⟨l3, m3, f3⟩ := BA
      obtain ⟨l4, m4, f4⟩ := P6
      obtain ⟨l5, m5, f5⟩ := B6
      go_wp2_with fail
      go_region_law (first
        | (refine step_append_run (by rfl) _ _ _ (by rfl) _ _ (by rfl) (by rfl) _ _ hr' ?_))
      all_goals
        clear hr' l2 m2 f2 l3 m3 f3
        go_wp2_with fail
        go_ret
        exact ⟨rfl, E.out⟩
end Go.Proofs.Ytpgibngohbohdaa

/-
  The law of the disk: a step: Flush.
-/

namespace Go.Proofs.Ytpgibngohbohdaa
open Go.RowKit Go.Maps
set_option linter.unusedVariables false
set_option linter.unusedSimpArgs false

theorem Sim.Fw {m : DM} {r : RM} (h : Sim m r) : m.tl = true → ∀ f ∈ m.Fs, f ≤ 9223372036854775807 := fun t => by
  rcases h.cut with ⟨_, e⟩ | ⟨_, _, _, _, e⟩
  · rw [e] at t; cases t
  · rw [e]; exact h.F
theorem dflush_any (m : DM) (b : Nat) (K : Nat → Prop) (w : World) (D : DiskM w b m K) (htr : m.trb = false) (i : Nat) (hf : m.few i) (hi : i ≤ 100000) (hFw : m.tl = true → ∀ f ∈ m.Fs, f ≤ 9223372036854775807) :
    Calls Try.prog 37 #[.pointer (some ⟨b, 0, none⟩)] w fun e w' => e = .returned (.int .i64 0) ∧ ∃ L DO n' m' K', L.map OcS.l = (flushD m.Qs m.sd m.Qs.length).1 ∧ (∀ z : Int, (Lit.int .i64 z).wf = true → Maps.has DO (.int .i64 z) = (flushD m.Qs m.sd m.Qs.length).2 z) ∧ n' ≤ m.n' + m.Qs.length ∧ Goz (m.after.moved L DO n').clean.counted m' ∧ DiskM w' b m' K' ∧ Sole K w w' ∧ ∀ k, K' k → K k ∨ w.heap.size ≤ k :=
  (flush_any (G := fun K1 m1 w1 w' => GozW b K1 m1 w1 w') m b K w D htr (by have := hf.2; omega) (by have := hf.2; omega) (fun L DO n' w1 K1 hn' D1 => goz_any _ b K1 w1 D1 hFw (by have := hf.2; show n' + 0 < _; omega))).mono
    fun e w' ⟨he, L, DO, n', w1, K1, D1, _, hS, hO, hn', S1, hK1, m', K', D', hG, _, S', hK'⟩ => ⟨he, L, DO, n', m', K', hS, hO, hn', hG, D', S1.trans' S' (fun k hk e => (hK1 k e).resolve_right (by omega)), fun k hk => (hK' k hk).elim (fun x => hK1 k x) (fun x => .inr (Nat.le_trans S1.size x))⟩
set_option maxRecDepth 100000 in
set_option maxHeartbeats 2000000 in
theorem step_flush (wa w : World) (hB : Below wa.heap.size wa w) (b rx : Nat) (m : DM) (K : Nat → Prop) (r : RM) (J : Nat → Prop) (T : Two wa.heap.size w b rx m K r J) (S : Sim m r) (i : Nat) (hf : m.few i) (hi : i ≤ 1000)
    (kd z n : Int) (hk : KindOf kd 1) (da : Option Addr) (dl dc : Nat) (fp : Option Addr) (fl fc : Nat) :
    Calls Try.prog 10 #[.pointer (some ⟨b, 0, none⟩), .pointer (some ⟨rx, 0, none⟩), .agg (opV kd z n da dl dc fp fl fc).toArray] w fun e w' => e = .returned (.bool true) ∧ StepW wa.heap.size w b rx i w' := by
  obtain ⟨u, hk1, hk2⟩ := hk
  have b0 : Below w.heap.size w (w.alloc (.cells (opV kd z n da dl dc fp fl fc).toArray 37)) := rbelow_one _ _
  have B0 := Blk.new w (opV kd z n da dl dc fp fl fc).toArray 37
  have T0 := T.more b0
  have hKl := hid (fun k (hk : K k) => T.D.klt k hk)
  have hxl := hid T.P.lt
  generalize hW0 : w.alloc (.cells (opV kd z n da dl dc fp fl fc).toArray 37) = W0 at *
  have Th := hid T0
  have Sh := hid S
  have fh := hid hf
  have b0h := hid (b0.mono hB.size)
  have Bh := hid B0
  have P0 := T0.P
  have hBW := hid (Nat.le_trans hB.size b0.size)
  have s0 := b0.size
  have KB := rbroken_any r.p0 r.L.length r.c0 r.p1 r.Q.length r.c1 r.p2 r.O.length r.c2 r.off r.cut r.p5 r.F.length r.c5 r.fail S.f1 W0
  have htrb := S.trb
  generalize hff : bkF r.off r.fail = f' at *
  have SA : Sim m.after { r with fail := f' } := by rw [← hff]; exact S.after
  have hob : bkB r.off r.fail = false → r.off = false := fun h => by
    unfold bkB at h
    cases ho : r.off with
    | false => rfl
    | true => rw [ho] at h; cases h
  generalize hbb : bkB r.off r.fail = bk at *
  have SAh := hid SA
  replace KB := hid KB
  simp only [RM.cells, rdv] at P0
  have hib := hid hi
  have hobh := hid hob
  clear T T0 S hf hB b0 SA hff hbb hob
  obtain ⟨l0, m0, f0⟩ := B0
  obtain ⟨l1, m1, f1⟩ := P0
  by_cases hz0 : 0 ≤ z
  all_goals
    have hz0' := hz0
    go_enter Try.func10, Try.ntmps10
    go_wp2_with fail
    refine KB.out.mono ?_
    rintro e w1 ⟨rfl, hb1⟩
    have T1 := Th.out.broken hb1 f'
    have b1 := Th.out.ref_low hBW.out hb1 (RM.cells { r with fail := f' })
    have S1 := sole_setAll (S := fun k => k = rx) rfl (RM.cells { r with fail := f' }) 0 w1
    have B1 := (Bh.out.more hb1).sole S1 (fun e => by have := hxl.out; omega)
    have PP := Th.out.P.more hb1
    have T1h := hid T1
    have b1h := hid (b0h.out.trans b1)
    have B1h := hid B1
    have hW1 := hid (Nat.le_trans (Nat.le_trans hBW.out hb1.size) S1.size)
    simp only [RM.cells, rdv] at PP
    obtain ⟨lp, mp, fp1⟩ := PP
    clear T1 b1 S1 B1 hb1 KB l0 m0 f0 l1 m1 f1
    go_upto_region 6 with (fail)
    simp only [setAll, RM.cells, rdv, Nat.zero_add, Nat.reduceAdd] at T1h b1h B1h hW1
    clear lp mp fp1
    generalize World.setCell (World.setCell (World.setCell (World.setCell (World.setCell (World.setCell (World.setCell w1 _ _) _ _) _ _) _ _) _ _) _ _) _ _ = W1 at *
    obtain ⟨l0, m0, f0⟩ := B1h.out

    cases bk with
    | true =>
      have KF := hid (flush_bad m b K W1 T1h.out.D htrb)
      go_wp2_with fail
      refine KF.out.mono ?_
      rintro e w2 ⟨rfl, D2, S2⟩
      have T2 := T1h.out.disk hW1.out D2 S2 (fun k hk => .inl hk)
      have E := hid (show StepW wa.heap.size w b rx i w2 from ⟨_, _, _, _, T2, SAh.out, DM.few.succ (show m.after.few i from fh.out), b1h.out.trans (T1h.out.low hW1.out S2)⟩)
      clear T2 D2 S2 KF l0 m0 f0
      go_wp2_with fail
      go_ret
      exact ⟨rfl, E.out⟩
    | false =>
      have hoffh : Hid (r.off = false) := hid (by first | exact hobh.out | exact hobh.out rfl)
      have KF := hid (dflush_any m b K W1 T1h.out.D htrb i fh.out (by have := hib.out; omega) Sh.out.Fw)
      go_wp2_with fail
      refine KF.out.mono ?_
      rintro e w2 ⟨rfl, L, DO, n', m', K2, hS, hO, hn', hG, D2, S2, hK2⟩
      have T2 := T1h.out.disk hW1.out D2 S2 hK2
      have b2 := hid (b1h.out.trans (T1h.out.low hW1.out S2))
      have hw2 := hid (Nat.le_trans hW1.out S2.size)
      have KR := rflush_any { r with fail := f' } _ w2 T2.R SAh.out.F SAh.out.c0 SAh.out.c1
      have T2h := hid T2
      have EE := hid (And.intro hS (And.intro hO (And.intro hn' hG)))
      have P2 := T2.P
      simp only [RM.v, RM.cells, rdv] at P2 KR
      replace KR := hid KR
      clear T2 D2 S2 KF l0 m0 f0 hS hO hn' hG hK2
      obtain ⟨l0, m0, f0⟩ := P2
      go_wp2_with fail
      refine KR.out.mono ?_
      rintro e w5 ⟨p0, c0, L5, p2, c2, O5, r', hL5, hs5, rfl, R5, hb5, hD5⟩
      have P5 := T2h.out.P.more hb5
      have T5 := T2h.out.ref hb5 R5
      have b5 := T2h.out.ref_low hw2.out hb5 r'.cells
      have hfl := SAh.out.flushed EE.out.1 EE.out.2.1 (n' := n') hs5
      have sim := hfl.counted hoffh.out EE.out.2.2.2 hD5
      have E := hid (show StepW wa.heap.size w b rx i _ from ⟨_, _, _, _, T5, sim, DM.few.succ (EE.out.2.2.2.few (show (m.after.moved L DO n').clean.counted.few i from ⟨Nat.zero_le _, Nat.le_trans EE.out.2.2.1 fh.out.2⟩)), b2.out.trans b5⟩)
      simp only [RM.cells, rdv] at P5
      clear T5 b5 hfl sim R5 hb5 hD5 hs5 hL5 KR l0 m0 f0 EE
      obtain ⟨l0, m0, f0⟩ := P5
      go_wp2_with fail
      simp only [setAll, RM.cells, rdv, Nat.zero_add, Nat.reduceAdd] at E
      go_ret
      exact ⟨rfl, E.out⟩
end Go.Proofs.Ytpgibngohbohdaa

/-
  The law of the disk: a step: Write, of octets as they are.
-/

namespace Go.Proofs.Ytpgibngohbohdaa
open Go.RowKit Go.Maps
set_option linter.unusedVariables false
set_option linter.unusedSimpArgs false

theorem dwrite_any (m : DM) (b : Nat) (z : Int) (K : Nat → Prop) (w : World) (D : DiskM w b m K) (x : OcS) (hx : x.there w) (hxK : ∀ b' o, x.a = some ⟨b', o, none⟩ → ¬ K b') (hxl : x.l.length = 256) (hz : (Lit.int .i64 z).wf = true) (hr : 0 ≤ z ∧ z < (m.Ls.length : Int)) (htr : m.trb = false) (i : Nat) (hf : m.few i) (hi : i ≤ 1000) (hFw : m.tl = true → ∀ f ∈ m.Fs, f ≤ 9223372036854775807) :
    Calls Try.prog 23 #[.pointer (some ⟨b, 0, none⟩), .int .i64 z, .slice x.a x.l.length x.cap] w fun e w' => e = .returned (.int .i64 0) ∧ ∃ y q c m' K', y.l = x.l ∧ Goz (m.after.wrote z y q c).counted m' ∧ DiskM w' b m' K' ∧ Sole K w w' ∧ ∀ k, K' k → K k ∨ w.heap.size ≤ k := by
  rw [hxl]
  exact (write_any (G := fun K1 m1 w1 w' => GozW b K1 m1 w1 w') m b z K w D x hx hxK hxl hz hr.1 hr.2 htr (by have := hf.1; omega) (by have := hf.2; omega) (fun y q c w1 K1 D1 => goz_any _ b K1 w1 D1 hFw (by have := hf.2; show m.n' + (m.Qs ++ [(⟨z, y⟩ : WtS)]).length < _; rw [List.length_append, List.length_singleton]; omega))).mono
    fun e w' ⟨he, y, q, c, w1, K1, hy, D1, S1, hK1, m', K', D', hG, _, S', hK'⟩ => ⟨he, y, q, c, m', K', hy, hG, D', S1.trans' S' (fun k hk e => (hK1 k e).resolve_right (by omega)), fun k hk => (hK' k hk).elim (fun x => hK1 k x) (fun x => .inr (Nat.le_trans S1.size x))⟩
set_option maxRecDepth 100000 in
set_option maxHeartbeats 8000000 in
theorem step_putA (wa w : World) (hB : Below wa.heap.size wa w) (b rx : Nat) (m : DM) (K : Nat → Prop) (r : RM) (J : Nat → Prop) (T : Two wa.heap.size w b rx m K r J) (S : Sim m r) (i : Nat) (hf : m.few i) (hi : i ≤ 1000)
    (kd z n : Int) (hk : KindOf kd 6) (hz : (Lit.int .i64 z).wf = true) (hz0 : 0 ≤ z) (hz1 : z < (r.L.length : Int)) (xd : OcS) (hxd : xd.there wa) (fp : Option Addr) (fl fc : Nat) :
    Calls Try.prog 10 #[.pointer (some ⟨b, 0, none⟩), .pointer (some ⟨rx, 0, none⟩), .agg (opV kd z n xd.a xd.l.length xd.cap fp fl fc).toArray] w fun e w' => e = .returned (.bool true) ∧ StepW wa.heap.size w b rx i w' := by
  obtain ⟨u, hk1, hk2⟩ := hk
  have b0 : Below w.heap.size w (w.alloc (.cells (opV kd z n xd.a xd.l.length xd.cap fp fl fc).toArray 37)) := rbelow_one _ _
  have B0 := Blk.new w (opV kd z n xd.a xd.l.length xd.cap fp fl fc).toArray 37
  have T0 := T.more b0
  have hKl := hid (fun k (hk : K k) => T.D.klt k hk)
  have hxl := hid T.P.lt
  generalize hW0 : w.alloc (.cells (opV kd z n xd.a xd.l.length xd.cap fp fl fc).toArray 37) = W0 at *
  have Th := hid T0
  have Sh := hid S
  have fh := hid hf
  have b0h := hid (b0.mono hB.size)
  have Bh := hid B0
  have P0 := T0.P
  have hBW := hid (Nat.le_trans hB.size b0.size)
  have s0 := b0.size
  have KB := rbroken_any r.p0 r.L.length r.c0 r.p1 r.Q.length r.c1 r.p2 r.O.length r.c2 r.off r.cut r.p5 r.F.length r.c5 r.fail S.f1 W0
  have htrb := S.trb
  generalize hff : bkF r.off r.fail = f' at *
  have SA : Sim m.after { r with fail := f' } := by rw [← hff]; exact S.after
  have hob : bkB r.off r.fail = false → r.off = false := fun h => by
    unfold bkB at h
    cases ho : r.off with
    | false => rfl
    | true => rw [ho] at h; cases h
  generalize hbb : bkB r.off r.fail = bk at *
  have SAh := hid SA
  replace KB := hid KB
  simp only [RM.cells, rdv] at P0
  have hib := hid hi
  have bah := hid (below2 hB b0 hB.size)
  have hobh := hid hob
  clear T T0 S hf hB b0 SA hff hbb hob
  obtain ⟨l0, m0, f0⟩ := B0
  obtain ⟨l1, m1, f1⟩ := P0
  have hlen := hid Sh.out.len
  have hxh := hid hxd
  clear hxd
  go_enter Try.func10, Try.ntmps10
  go_wp2_with fail
  refine KB.out.mono ?_
  rintro e w1 ⟨rfl, hb1⟩
  have T1 := Th.out.broken hb1 f'
  have b1 := Th.out.ref_low hBW.out hb1 (RM.cells { r with fail := f' })
  have S1 := sole_setAll (S := fun k => k = rx) rfl (RM.cells { r with fail := f' }) 0 w1
  have B1 := (Bh.out.more hb1).sole S1 (fun e => by have := hxl.out; omega)
  have PP := Th.out.P.more hb1
  have T1h := hid T1
  have b1h := hid (b0h.out.trans b1)
  have B1h := hid B1
  have q1h := hid ((hb1.mono hBW.out).trans (S1.below (B := wa.heap.size) (Nat.le_trans hBW.out hb1.size) fun k e => e ▸ Th.out.xB))
  have hW1 := hid (Nat.le_trans (Nat.le_trans hBW.out hb1.size) S1.size)
  simp only [RM.cells, rdv] at PP
  obtain ⟨lp, mp, fp1⟩ := PP
  clear T1 b1 S1 B1 hb1 KB l0 m0 f0 l1 m1 f1
  go_upto_region 6 with (fail)
  simp only [setAll, RM.cells, rdv, Nat.zero_add, Nat.reduceAdd] at T1h b1h B1h hW1 q1h
  clear lp mp fp1
  generalize World.setCell (World.setCell (World.setCell (World.setCell (World.setCell (World.setCell (World.setCell w1 _ _) _ _) _ _) _ _) _ _) _ _) _ _ = W1 at *
  obtain ⟨l0, m0, f0⟩ := B1h.out

  have hxw := hid (show xd.there W1 from hxh.out.more (bah.out.trans q1h.out))
  have hxK := hid (fun (h : xd.l.length = 256) b' o (e : xd.a = some ⟨b', o, none⟩) => show ¬ K b' from fun hk => by
    have h1 := T1h.out.KB b' hk
    rcases hxh.out.1 with h0 | ⟨b9, o9, e9, R9⟩
    · rw [h0] at h; cases h
    · rw [e9] at e; cases e; have := R9.1; omega)
  have hxlen : (xd.l.length : Int) ≤ 9223372036854775807 := by have := hxw.out.2.1; have := hxw.out.2.2; unfold maxLen at this; omega
  cases bk with
  | true =>
    have KF := hid (wr_bad m b z K W1 T1h.out.D htrb xd.a xd.l.length xd.cap)
    go_wp2_with fail
    refine KF.out.mono ?_
    rintro e w2 ⟨rfl, D2, S2⟩
    have T3 := T1h.out.disk hW1.out D2 S2 (fun k hk => .inl hk)
    have E := hid (show StepW wa.heap.size w b rx i w2 from ⟨_, _, _, _, T3, SAh.out, DM.few.succ (show m.after.few i from fh.out), b1h.out.trans (T1h.out.low hW1.out S2)⟩)
    clear T3 D2 S2 KF l0 m0 f0
    go_wp2_with fail
    go_ret
    exact ⟨rfl, E.out⟩
  | false =>
    have hoffh : Hid (r.off = false) := hid (by first | exact hobh.out | exact hobh.out rfl)
    have hr : 0 ≤ z ∧ z < (m.Ls.length : Int) := by rw [hlen.out]; exact ⟨hz0, hz1⟩
    by_cases h256 : xd.l.length = 256
    · replace h256 := hid h256
      obtain ⟨k, rfl⟩ : ∃ k : Nat, z = (k : Int) := ⟨z.toNat, by omega⟩
      have hkl : k < r.L.length := by omega
      have KF := hid (dwrite_any m b (k : Int) K W1 T1h.out.D xd hxw.out (hxK.out h256.out) h256.out hz hr htrb i fh.out hib.out Sh.out.Fw)
      have h256' : ((xd.l.length : Int) == 256) = true := by rw [h256.out]; rfl
      have hgh := h256
      clear hr h256
      go_wp2_with fail
      refine KF.out.mono ?_
      rintro e w2 ⟨rfl, y, q, c, m', K2, hy, hG, D2, S2, hK2⟩
      have T3 := T1h.out.disk hW1.out D2 S2 hK2
      have b3 := b1h.out.trans (T1h.out.low hW1.out S2)
      have B3 := B1h.out.sole S2 (fun e => by have := hKl.out _ e; omega)
      have hwd := hid (show wa.heap.size ≤ w2.drew.heap.size from Nat.le_trans hW1.out S2.size)
      have hx3 := (oc_sole hxw.out S2 (fun b' o e hk => hxK.out hgh.out b' o e hk)).more (Below.refl _ _).drew
      have Td := T3.more (Below.refl _ _).drew
      have KR := rwrite_any { r with fail := f' } _ w2.drew Td.R SAh.out.F SAh.out.c0 SAh.out.c1 k hkl xd hx3 hgh.out (by have := fh.out.2; have := Sh.out.qlen; have := hib.out; show r.Q.length + 1 ≤ _; omega)
      have P2 := T3.P
      have Tdh := hid Td
      have EE := hid (And.intro hy hG)
      have bd := hid (b3.trans ((Below.refl w2.heap.size w2).drew.mono hwd.out))
      simp only [RM.v, RM.cells, rdv] at P2 KR
      replace KR := hid KR
      have P2h := hid P2
      clear T3 Td D2 S2 KF l0 m0 f0 hy hG hK2 hx3 b3
      obtain ⟨l0, m0, f0⟩ := B3
      obtain ⟨l1, m1, f1⟩ := P2
      go_wp2_with fail
      go_region_law (first
        | (go_simp; (with_reducible refine KR.out.mono ?_); rintro e w5 ⟨p1, c1, y2, r', hy2, rfl, R5, hb5, hD5⟩; have E5 := hid (And.intro hy2 (And.intro R5 (And.intro hb5 hD5))); obtain ⟨l5, m5, f5⟩ := P2h.out.more ((Below.refl _ _).drew.trans hb5); clear R5 hb5 hD5 hy2))
      all_goals
        have T5 := Tdh.out.ref E5.out.2.2.1 E5.out.2.1
        have b5 := Tdh.out.ref_low hwd.out E5.out.2.2.1 r'.cells
        have sim := (SAh.out.wrote (k : Int) y y2 (EE.out.1.trans E5.out.1.symm) q c p1 c1).counted hoffh.out EE.out.2 E5.out.2.2.2
        have fw : (m.after.wrote (k : Int) y q c).counted.few (i + 1) := ⟨Nat.succ_le_succ fh.out.1, by
          have := fh.out.2
          show m.n' + (m.Qs ++ [(⟨(k : Int), y⟩ : WtS)]).length ≤ _
          rw [List.length_append, List.length_singleton]
          omega⟩
        have E := hid (show StepW wa.heap.size w b rx i _ from ⟨_, _, _, _, T5, sim, EE.out.2.few fw, bd.out.trans b5⟩)
        clear T5 b5 sim fw E5 EE KR P2h Tdh l0 m0 f0 l1 m1 f1 l5 m5 f5
        go_wp2_with fail
        simp only [setAll, RM.cells, rdv, Nat.zero_add, Nat.reduceAdd] at E
        go_ret
        exact ⟨rfl, E.out⟩
    · have KFx := wr_long m b z K W1 T1h.out.D htrb hr xd.a xd.l.length xd.cap h256
      have h256' : ((xd.l.length : Int) == 256) = false := by rw [beq_eq_false_iff_ne]; omega
      clear hr h256
      have KF := hid (KFx)
      go_wp2_with fail
      refine KF.out.mono ?_
      rintro e w2 ⟨rfl, D2, S2⟩
      have T3 := T1h.out.disk hW1.out D2 S2 (fun k hk => .inl hk)
      have E := hid (show StepW wa.heap.size w b rx i w2 from ⟨_, _, _, _, T3, SAh.out, DM.few.succ (show m.after.few i from fh.out), b1h.out.trans (T1h.out.low hW1.out S2)⟩)
      clear KFx T3 D2 S2 KF l0 m0 f0
      go_wp2_with fail
      go_ret
      exact ⟨rfl, E.out⟩
set_option maxRecDepth 100000 in
set_option maxHeartbeats 8000000 in
theorem step_putB (wa w : World) (hB : Below wa.heap.size wa w) (b rx : Nat) (m : DM) (K : Nat → Prop) (r : RM) (J : Nat → Prop) (T : Two wa.heap.size w b rx m K r J) (S : Sim m r) (i : Nat) (hf : m.few i) (hi : i ≤ 1000)
    (kd z n : Int) (hk : KindOf kd 6) (hz : (Lit.int .i64 z).wf = true) (hz0 : 0 ≤ z) (hz1 : ¬ z < (r.L.length : Int)) (xd : OcS) (hxd : xd.there wa) (fp : Option Addr) (fl fc : Nat) :
    Calls Try.prog 10 #[.pointer (some ⟨b, 0, none⟩), .pointer (some ⟨rx, 0, none⟩), .agg (opV kd z n xd.a xd.l.length xd.cap fp fl fc).toArray] w fun e w' => e = .returned (.bool true) ∧ StepW wa.heap.size w b rx i w' := by
  obtain ⟨u, hk1, hk2⟩ := hk
  have b0 : Below w.heap.size w (w.alloc (.cells (opV kd z n xd.a xd.l.length xd.cap fp fl fc).toArray 37)) := rbelow_one _ _
  have B0 := Blk.new w (opV kd z n xd.a xd.l.length xd.cap fp fl fc).toArray 37
  have T0 := T.more b0
  have hKl := hid (fun k (hk : K k) => T.D.klt k hk)
  have hxl := hid T.P.lt
  generalize hW0 : w.alloc (.cells (opV kd z n xd.a xd.l.length xd.cap fp fl fc).toArray 37) = W0 at *
  have Th := hid T0
  have Sh := hid S
  have fh := hid hf
  have b0h := hid (b0.mono hB.size)
  have Bh := hid B0
  have P0 := T0.P
  have hBW := hid (Nat.le_trans hB.size b0.size)
  have s0 := b0.size
  have KB := rbroken_any r.p0 r.L.length r.c0 r.p1 r.Q.length r.c1 r.p2 r.O.length r.c2 r.off r.cut r.p5 r.F.length r.c5 r.fail S.f1 W0
  have htrb := S.trb
  generalize hff : bkF r.off r.fail = f' at *
  have SA : Sim m.after { r with fail := f' } := by rw [← hff]; exact S.after
  have hob : bkB r.off r.fail = false → r.off = false := fun h => by
    unfold bkB at h
    cases ho : r.off with
    | false => rfl
    | true => rw [ho] at h; cases h
  generalize hbb : bkB r.off r.fail = bk at *
  have SAh := hid SA
  replace KB := hid KB
  simp only [RM.cells, rdv] at P0
  have hib := hid hi
  have bah := hid (below2 hB b0 hB.size)
  have hobh := hid hob
  clear T T0 S hf hB b0 SA hff hbb hob
  obtain ⟨l0, m0, f0⟩ := B0
  obtain ⟨l1, m1, f1⟩ := P0
  have hlen := hid Sh.out.len
  have hz1d : decide (z < (r.L.length : Int)) = false := decide_eq_false hz1
  have hxh := hid hxd
  clear hxd
  go_enter Try.func10, Try.ntmps10
  go_wp2_with fail
  refine KB.out.mono ?_
  rintro e w1 ⟨rfl, hb1⟩
  have T1 := Th.out.broken hb1 f'
  have b1 := Th.out.ref_low hBW.out hb1 (RM.cells { r with fail := f' })
  have S1 := sole_setAll (S := fun k => k = rx) rfl (RM.cells { r with fail := f' }) 0 w1
  have B1 := (Bh.out.more hb1).sole S1 (fun e => by have := hxl.out; omega)
  have PP := Th.out.P.more hb1
  have T1h := hid T1
  have b1h := hid (b0h.out.trans b1)
  have B1h := hid B1
  have q1h := hid ((hb1.mono hBW.out).trans (S1.below (B := wa.heap.size) (Nat.le_trans hBW.out hb1.size) fun k e => e ▸ Th.out.xB))
  have hW1 := hid (Nat.le_trans (Nat.le_trans hBW.out hb1.size) S1.size)
  simp only [RM.cells, rdv] at PP
  obtain ⟨lp, mp, fp1⟩ := PP
  clear T1 b1 S1 B1 hb1 KB l0 m0 f0 l1 m1 f1
  go_upto_region 6 with (fail)
  simp only [setAll, RM.cells, rdv, Nat.zero_add, Nat.reduceAdd] at T1h b1h B1h hW1 q1h
  clear lp mp fp1
  generalize World.setCell (World.setCell (World.setCell (World.setCell (World.setCell (World.setCell (World.setCell w1 _ _) _ _) _ _) _ _) _ _) _ _) _ _ = W1 at *
  obtain ⟨l0, m0, f0⟩ := B1h.out

  have hxw := hid (show xd.there W1 from hxh.out.more (bah.out.trans q1h.out))
  have hxK := hid (fun (h : xd.l.length = 256) b' o (e : xd.a = some ⟨b', o, none⟩) => show ¬ K b' from fun hk => by
    have h1 := T1h.out.KB b' hk
    rcases hxh.out.1 with h0 | ⟨b9, o9, e9, R9⟩
    · rw [h0] at h; cases h
    · rw [e9] at e; cases e; have := R9.1; omega)
  have hxlen : (xd.l.length : Int) ≤ 9223372036854775807 := by have := hxw.out.2.1; have := hxw.out.2.2; unfold maxLen at this; omega
  cases bk with
  | true =>
    have KF := hid (wr_bad m b z K W1 T1h.out.D htrb xd.a xd.l.length xd.cap)
    go_wp2_with fail
    refine KF.out.mono ?_
    rintro e w2 ⟨rfl, D2, S2⟩
    have T3 := T1h.out.disk hW1.out D2 S2 (fun k hk => .inl hk)
    have E := hid (show StepW wa.heap.size w b rx i w2 from ⟨_, _, _, _, T3, SAh.out, DM.few.succ (show m.after.few i from fh.out), b1h.out.trans (T1h.out.low hW1.out S2)⟩)
    clear T3 D2 S2 KF l0 m0 f0
    go_wp2_with fail
    go_ret
    exact ⟨rfl, E.out⟩
  | false =>
    have hoffh : Hid (r.off = false) := hid (by first | exact hobh.out | exact hobh.out rfl)
    have hr : ¬ (0 ≤ z ∧ z < (m.Ls.length : Int)) := by rw [hlen.out]; omega
    have KF := hid (wr_far m b z K W1 T1h.out.D htrb hr xd.a xd.l.length xd.cap)
    go_wp2_with fail
    refine KF.out.mono ?_
    rintro e w2 ⟨rfl, D2, S2⟩
    have T3 := T1h.out.disk hW1.out D2 S2 (fun k hk => .inl hk)
    have E := hid (show StepW wa.heap.size w b rx i w2 from ⟨_, _, _, _, T3, SAh.out, DM.few.succ (show m.after.few i from fh.out), b1h.out.trans (T1h.out.low hW1.out S2)⟩)
    clear T3 D2 S2 KF l0 m0 f0
    go_wp2_with fail
    go_ret
    exact ⟨rfl, E.out⟩
set_option maxRecDepth 100000 in
set_option maxHeartbeats 8000000 in
theorem step_putC (wa w : World) (hB : Below wa.heap.size wa w) (b rx : Nat) (m : DM) (K : Nat → Prop) (r : RM) (J : Nat → Prop) (T : Two wa.heap.size w b rx m K r J) (S : Sim m r) (i : Nat) (hf : m.few i) (hi : i ≤ 1000)
    (kd z n : Int) (hk : KindOf kd 6) (hz : (Lit.int .i64 z).wf = true) (hz0 : ¬ 0 ≤ z) (xd : OcS) (hxd : xd.there wa) (fp : Option Addr) (fl fc : Nat) :
    Calls Try.prog 10 #[.pointer (some ⟨b, 0, none⟩), .pointer (some ⟨rx, 0, none⟩), .agg (opV kd z n xd.a xd.l.length xd.cap fp fl fc).toArray] w fun e w' => e = .returned (.bool true) ∧ StepW wa.heap.size w b rx i w' := by
  obtain ⟨u, hk1, hk2⟩ := hk
  have b0 : Below w.heap.size w (w.alloc (.cells (opV kd z n xd.a xd.l.length xd.cap fp fl fc).toArray 37)) := rbelow_one _ _
  have B0 := Blk.new w (opV kd z n xd.a xd.l.length xd.cap fp fl fc).toArray 37
  have T0 := T.more b0
  have hKl := hid (fun k (hk : K k) => T.D.klt k hk)
  have hxl := hid T.P.lt
  generalize hW0 : w.alloc (.cells (opV kd z n xd.a xd.l.length xd.cap fp fl fc).toArray 37) = W0 at *
  have Th := hid T0
  have Sh := hid S
  have fh := hid hf
  have b0h := hid (b0.mono hB.size)
  have Bh := hid B0
  have P0 := T0.P
  have hBW := hid (Nat.le_trans hB.size b0.size)
  have s0 := b0.size
  have KB := rbroken_any r.p0 r.L.length r.c0 r.p1 r.Q.length r.c1 r.p2 r.O.length r.c2 r.off r.cut r.p5 r.F.length r.c5 r.fail S.f1 W0
  have htrb := S.trb
  generalize hff : bkF r.off r.fail = f' at *
  have SA : Sim m.after { r with fail := f' } := by rw [← hff]; exact S.after
  have hob : bkB r.off r.fail = false → r.off = false := fun h => by
    unfold bkB at h
    cases ho : r.off with
    | false => rfl
    | true => rw [ho] at h; cases h
  generalize hbb : bkB r.off r.fail = bk at *
  have SAh := hid SA
  replace KB := hid KB
  simp only [RM.cells, rdv] at P0
  have hib := hid hi
  have bah := hid (below2 hB b0 hB.size)
  have hobh := hid hob
  clear T T0 S hf hB b0 SA hff hbb hob
  obtain ⟨l0, m0, f0⟩ := B0
  obtain ⟨l1, m1, f1⟩ := P0
  have hlen := hid Sh.out.len
  have hxh := hid hxd
  clear hxd
  go_enter Try.func10, Try.ntmps10
  go_wp2_with fail
  refine KB.out.mono ?_
  rintro e w1 ⟨rfl, hb1⟩
  have T1 := Th.out.broken hb1 f'
  have b1 := Th.out.ref_low hBW.out hb1 (RM.cells { r with fail := f' })
  have S1 := sole_setAll (S := fun k => k = rx) rfl (RM.cells { r with fail := f' }) 0 w1
  have B1 := (Bh.out.more hb1).sole S1 (fun e => by have := hxl.out; omega)
  have PP := Th.out.P.more hb1
  have T1h := hid T1
  have b1h := hid (b0h.out.trans b1)
  have B1h := hid B1
  have q1h := hid ((hb1.mono hBW.out).trans (S1.below (B := wa.heap.size) (Nat.le_trans hBW.out hb1.size) fun k e => e ▸ Th.out.xB))
  have hW1 := hid (Nat.le_trans (Nat.le_trans hBW.out hb1.size) S1.size)
  simp only [RM.cells, rdv] at PP
  obtain ⟨lp, mp, fp1⟩ := PP
  clear T1 b1 S1 B1 hb1 KB l0 m0 f0 l1 m1 f1
  go_upto_region 6 with (fail)
  simp only [setAll, RM.cells, rdv, Nat.zero_add, Nat.reduceAdd] at T1h b1h B1h hW1 q1h
  clear lp mp fp1
  generalize World.setCell (World.setCell (World.setCell (World.setCell (World.setCell (World.setCell (World.setCell w1 _ _) _ _) _ _) _ _) _ _) _ _) _ _ = W1 at *
  obtain ⟨l0, m0, f0⟩ := B1h.out

  have hxw := hid (show xd.there W1 from hxh.out.more (bah.out.trans q1h.out))
  have hxK := hid (fun (h : xd.l.length = 256) b' o (e : xd.a = some ⟨b', o, none⟩) => show ¬ K b' from fun hk => by
    have h1 := T1h.out.KB b' hk
    rcases hxh.out.1 with h0 | ⟨b9, o9, e9, R9⟩
    · rw [h0] at h; cases h
    · rw [e9] at e; cases e; have := R9.1; omega)
  have hxlen : (xd.l.length : Int) ≤ 9223372036854775807 := by have := hxw.out.2.1; have := hxw.out.2.2; unfold maxLen at this; omega
  cases bk with
  | true =>
    have KF := hid (wr_bad m b z K W1 T1h.out.D htrb xd.a xd.l.length xd.cap)
    go_wp2_with fail
    refine KF.out.mono ?_
    rintro e w2 ⟨rfl, D2, S2⟩
    have T3 := T1h.out.disk hW1.out D2 S2 (fun k hk => .inl hk)
    have E := hid (show StepW wa.heap.size w b rx i w2 from ⟨_, _, _, _, T3, SAh.out, DM.few.succ (show m.after.few i from fh.out), b1h.out.trans (T1h.out.low hW1.out S2)⟩)
    clear T3 D2 S2 KF l0 m0 f0
    go_wp2_with fail
    go_ret
    exact ⟨rfl, E.out⟩
  | false =>
    have hoffh : Hid (r.off = false) := hid (by first | exact hobh.out | exact hobh.out rfl)
    have hr : ¬ (0 ≤ z ∧ z < (m.Ls.length : Int)) := by rw [hlen.out]; omega
    have KF := hid (wr_far m b z K W1 T1h.out.D htrb hr xd.a xd.l.length xd.cap)
    go_wp2_with fail
    refine KF.out.mono ?_
    rintro e w2 ⟨rfl, D2, S2⟩
    have T3 := T1h.out.disk hW1.out D2 S2 (fun k hk => .inl hk)
    have E := hid (show StepW wa.heap.size w b rx i w2 from ⟨_, _, _, _, T3, SAh.out, DM.few.succ (show m.after.few i from fh.out), b1h.out.trans (T1h.out.low hW1.out S2)⟩)
    clear T3 D2 S2 KF l0 m0 f0
    go_wp2_with fail
    go_ret
    exact ⟨rfl, E.out⟩
theorem step_put (wa w : World) (hB : Below wa.heap.size wa w) (b rx : Nat) (m : DM) (K : Nat → Prop) (r : RM) (J : Nat → Prop) (T : Two wa.heap.size w b rx m K r J) (S : Sim m r) (i : Nat) (hf : m.few i) (hi : i ≤ 1000)
    (kd z n : Int) (hk : KindOf kd 6) (hz : (Lit.int .i64 z).wf = true) (xd : OcS) (hxd : xd.there wa) (fp : Option Addr) (fl fc : Nat) :
    Calls Try.prog 10 #[.pointer (some ⟨b, 0, none⟩), .pointer (some ⟨rx, 0, none⟩), .agg (opV kd z n xd.a xd.l.length xd.cap fp fl fc).toArray] w fun e w' => e = .returned (.bool true) ∧ StepW wa.heap.size w b rx i w' := by
  by_cases hz0 : 0 ≤ z
  · by_cases hz1 : z < (r.L.length : Int)
    · exact step_putA wa w hB b rx m K r J T S i hf hi kd z n hk hz hz0 hz1 xd hxd fp fl fc
    · exact step_putB wa w hB b rx m K r J T S i hf hi kd z n hk hz hz0 hz1 xd hxd fp fl fc
  · exact step_putC wa w hB b rx m K r J T S i hf hi kd z n hk hz hz0 xd hxd fp fl fc
end Go.Proofs.Ytpgibngohbohdaa

/-
  The law of the disk: a step: Write, of a full sector. (Written by wip/tools/gensteprw.py.)
-/


namespace Go.Proofs.Ytpgibngohbohdaa
open Go.RowKit Go.Maps
set_option linter.unusedVariables false
set_option linter.unusedSimpArgs false

set_option maxRecDepth 100000 in
set_option maxHeartbeats 8000000 in
theorem step_fullA (wa w : World) (hB : Below wa.heap.size wa w) (b rx : Nat) (m : DM) (K : Nat → Prop) (r : RM) (J : Nat → Prop) (T : Two wa.heap.size w b rx m K r J) (S : Sim m r) (i : Nat) (hf : m.few i) (hi : i ≤ 1000)
    (kd z n : Int) (hk : KindOf kd 0) (hz : (Lit.int .i64 z).wf = true) (hz0 : 0 ≤ z) (hz1 : z < (r.L.length : Int)) (hn0 : 0 ≤ n) (hn1 : n ≤ 255) (xd : OcS) (hxd : xd.there wa) (fp : Option Addr) (fl fc : Nat) :
    Calls Try.prog 10 #[.pointer (some ⟨b, 0, none⟩), .pointer (some ⟨rx, 0, none⟩), .agg (opV kd z n xd.a xd.l.length xd.cap fp fl fc).toArray] w fun e w' => e = .returned (.bool true) ∧ StepW wa.heap.size w b rx i w' := by
  obtain ⟨u, hk1, hk2⟩ := hk
  have b0 : Below w.heap.size w (w.alloc (.cells (opV kd z n xd.a xd.l.length xd.cap fp fl fc).toArray 37)) := rbelow_one _ _
  have B0 := Blk.new w (opV kd z n xd.a xd.l.length xd.cap fp fl fc).toArray 37
  have T0 := T.more b0
  have hKl := hid (fun k (hk : K k) => T.D.klt k hk)
  have hxl := hid T.P.lt
  generalize hW0 : w.alloc (.cells (opV kd z n xd.a xd.l.length xd.cap fp fl fc).toArray 37) = W0 at *
  have Th := hid T0
  have Sh := hid S
  have fh := hid hf
  have b0h := hid (b0.mono hB.size)
  have Bh := hid B0
  have P0 := T0.P
  have hBW := hid (Nat.le_trans hB.size b0.size)
  have s0 := b0.size
  have KB := rbroken_any r.p0 r.L.length r.c0 r.p1 r.Q.length r.c1 r.p2 r.O.length r.c2 r.off r.cut r.p5 r.F.length r.c5 r.fail S.f1 W0
  have htrb := S.trb
  generalize hff : bkF r.off r.fail = f' at *
  have SA : Sim m.after { r with fail := f' } := by rw [← hff]; exact S.after
  have hob : bkB r.off r.fail = false → r.off = false := fun h => by
    unfold bkB at h
    cases ho : r.off with
    | false => rfl
    | true => rw [ho] at h; cases h
  generalize hbb : bkB r.off r.fail = bk at *
  have SAh := hid SA
  replace KB := hid KB
  simp only [RM.cells, rdv] at P0
  have hib := hid hi
  have bah := hid (below2 hB b0 hB.size)
  have hobh := hid hob
  clear T T0 S hf hB b0 SA hff hbb hob
  obtain ⟨l0, m0, f0⟩ := B0
  obtain ⟨l1, m1, f1⟩ := P0
  have hlen := hid Sh.out.len
  have hxh := hid hxd
  clear hxd
  have KFu := hid (fun W => full_any n hn0 hn1 W)
  clear hn0 hn1
  go_enter Try.func10, Try.ntmps10
  go_wp2_with fail
  refine KB.out.mono ?_
  rintro e w1 ⟨rfl, hb1⟩
  have T1 := Th.out.broken hb1 f'
  have b1 := Th.out.ref_low hBW.out hb1 (RM.cells { r with fail := f' })
  have S1 := sole_setAll (S := fun k => k = rx) rfl (RM.cells { r with fail := f' }) 0 w1
  have B1 := (Bh.out.more hb1).sole S1 (fun e => by have := hxl.out; omega)
  have PP := Th.out.P.more hb1
  have T1h := hid T1
  have b1h := hid (b0h.out.trans b1)
  have B1h := hid B1
  have q1h := hid ((hb1.mono hBW.out).trans (S1.below (B := wa.heap.size) (Nat.le_trans hBW.out hb1.size) fun k e => e ▸ Th.out.xB))
  have hW1 := hid (Nat.le_trans (Nat.le_trans hBW.out hb1.size) S1.size)
  simp only [RM.cells, rdv] at PP
  obtain ⟨lp, mp, fp1⟩ := PP
  clear T1 b1 S1 B1 hb1 KB l0 m0 f0 l1 m1 f1
  go_upto_region 6 with (fail)
  simp only [setAll, RM.cells, rdv, Nat.zero_add, Nat.reduceAdd] at T1h b1h B1h hW1 q1h
  clear lp mp fp1
  generalize World.setCell (World.setCell (World.setCell (World.setCell (World.setCell (World.setCell (World.setCell w1 _ _) _ _) _ _) _ _) _ _) _ _) _ _ = W1 at *
  obtain ⟨l0, m0, f0⟩ := B1h.out

  go_wp2_with fail
  refine (KFu.out W1).mono ?_
  rintro e w4 ⟨xn, rfl, hxl, hxt, hxa, hb4⟩
  have T2h := hid (T1h.out.more hb4)
  have b2h := hid (b1h.out.trans (hb4.mono hW1.out))
  have B2h := hid (B1h.out.more hb4)
  have hW2 := hid (Nat.le_trans hW1.out hb4.size)
  have hKl2 := hid (fun k (hk : K k) => T1h.out.D.klt k hk)
  have hxw := hid hxt
  have h256 : xn.l.length = 256 := by rw [hxl, fullL_len]
  have hxK := hid (fun (h : xn.l.length = 256) b' o (e : xn.a = some ⟨b', o, none⟩) => show ¬ K b' from fun hk => by rw [hxa] at e; cases e; have := hKl2.out _ hk; omega)
  have hxlen : (xn.l.length : Int) ≤ 9223372036854775807 := by omega
  rw [← h256]
  clear hxl hxt hxa hb4 KFu l0 m0 f0
  replace h256 := hid h256
  obtain ⟨l0, m0, f0⟩ := B2h.out
  cases bk with
  | true =>
    have KF := hid (wr_bad m b z K w4 T2h.out.D htrb xn.a xn.l.length xn.cap)
    go_wp2_with fail
    refine KF.out.mono ?_
    rintro e w2 ⟨rfl, D2, S2⟩
    have T3 := T2h.out.disk hW2.out D2 S2 (fun k hk => .inl hk)
    have E := hid (show StepW wa.heap.size w b rx i w2 from ⟨_, _, _, _, T3, SAh.out, DM.few.succ (show m.after.few i from fh.out), b2h.out.trans (T2h.out.low hW2.out S2)⟩)
    clear T3 D2 S2 KF l0 m0 f0
    go_wp2_with fail
    go_ret
    exact ⟨rfl, E.out⟩
  | false =>
    have hoffh : Hid (r.off = false) := hid (by first | exact hobh.out | exact hobh.out rfl)
    have hr : 0 ≤ z ∧ z < (m.Ls.length : Int) := by rw [hlen.out]; exact ⟨hz0, hz1⟩
    obtain ⟨k, rfl⟩ : ∃ k : Nat, z = (k : Int) := ⟨z.toNat, by omega⟩
    have hkl : k < r.L.length := by omega
    have KF := hid (dwrite_any m b (k : Int) K w4 T2h.out.D xn hxw.out (hxK.out h256.out) h256.out hz hr htrb i fh.out hib.out Sh.out.Fw)
    have h256' : ((xn.l.length : Int) == 256) = true := by rw [h256.out]; rfl
    have hgh := h256
    clear hr h256
    go_wp2_with fail
    refine KF.out.mono ?_
    rintro e w2 ⟨rfl, y, q, c, m', K2, hy, hG, D2, S2, hK2⟩
    have T3 := T2h.out.disk hW2.out D2 S2 hK2
    have b3 := b2h.out.trans (T2h.out.low hW2.out S2)
    have B3 := B2h.out.sole S2 (fun e => by have := hKl.out _ e; omega)
    have hwd := hid (show wa.heap.size ≤ w2.drew.heap.size from Nat.le_trans hW2.out S2.size)
    have hx3 := (oc_sole hxw.out S2 (fun b' o e hk => hxK.out hgh.out b' o e hk)).more (Below.refl _ _).drew
    have Td := T3.more (Below.refl _ _).drew
    have KR := rwrite_any { r with fail := f' } _ w2.drew Td.R SAh.out.F SAh.out.c0 SAh.out.c1 k hkl xn hx3 hgh.out (by have := fh.out.2; have := Sh.out.qlen; have := hib.out; show r.Q.length + 1 ≤ _; omega)
    have P2 := T3.P
    have Tdh := hid Td
    have EE := hid (And.intro hy hG)
    have bd := hid (b3.trans ((Below.refl w2.heap.size w2).drew.mono hwd.out))
    simp only [RM.v, RM.cells, rdv] at P2 KR
    replace KR := hid KR
    have P2h := hid P2
    clear T3 Td D2 S2 KF l0 m0 f0 hy hG hK2 hx3 b3
    obtain ⟨l0, m0, f0⟩ := B3
    obtain ⟨l1, m1, f1⟩ := P2
    go_wp2_with fail
    go_region_law (first
      | (go_simp; (with_reducible refine KR.out.mono ?_); rintro e w5 ⟨p1, c1, y2, r', hy2, rfl, R5, hb5, hD5⟩; have E5 := hid (And.intro hy2 (And.intro R5 (And.intro hb5 hD5))); obtain ⟨l5, m5, f5⟩ := P2h.out.more ((Below.refl _ _).drew.trans hb5); clear R5 hb5 hD5 hy2))
    all_goals
      have T5 := Tdh.out.ref E5.out.2.2.1 E5.out.2.1
      have b5 := Tdh.out.ref_low hwd.out E5.out.2.2.1 r'.cells
      have sim := (SAh.out.wrote (k : Int) y y2 (EE.out.1.trans E5.out.1.symm) q c p1 c1).counted hoffh.out EE.out.2 E5.out.2.2.2
      have fw : (m.after.wrote (k : Int) y q c).counted.few (i + 1) := ⟨Nat.succ_le_succ fh.out.1, by
        have := fh.out.2
        show m.n' + (m.Qs ++ [(⟨(k : Int), y⟩ : WtS)]).length ≤ _
        rw [List.length_append, List.length_singleton]
        omega⟩
      have E := hid (show StepW wa.heap.size w b rx i _ from ⟨_, _, _, _, T5, sim, EE.out.2.few fw, bd.out.trans b5⟩)
      clear T5 b5 sim fw E5 EE KR P2h Tdh l0 m0 f0 l1 m1 f1 l5 m5 f5
      go_wp2_with fail
      simp only [setAll, RM.cells, rdv, Nat.zero_add, Nat.reduceAdd] at E
      go_ret
      exact ⟨rfl, E.out⟩
set_option maxRecDepth 100000 in
set_option maxHeartbeats 8000000 in
theorem step_fullB (wa w : World) (hB : Below wa.heap.size wa w) (b rx : Nat) (m : DM) (K : Nat → Prop) (r : RM) (J : Nat → Prop) (T : Two wa.heap.size w b rx m K r J) (S : Sim m r) (i : Nat) (hf : m.few i) (hi : i ≤ 1000)
    (kd z n : Int) (hk : KindOf kd 0) (hz : (Lit.int .i64 z).wf = true) (hz0 : 0 ≤ z) (hz1 : ¬ z < (r.L.length : Int)) (hn0 : 0 ≤ n) (hn1 : n ≤ 255) (xd : OcS) (hxd : xd.there wa) (fp : Option Addr) (fl fc : Nat) :
    Calls Try.prog 10 #[.pointer (some ⟨b, 0, none⟩), .pointer (some ⟨rx, 0, none⟩), .agg (opV kd z n xd.a xd.l.length xd.cap fp fl fc).toArray] w fun e w' => e = .returned (.bool true) ∧ StepW wa.heap.size w b rx i w' := by
  obtain ⟨u, hk1, hk2⟩ := hk
  have b0 : Below w.heap.size w (w.alloc (.cells (opV kd z n xd.a xd.l.length xd.cap fp fl fc).toArray 37)) := rbelow_one _ _
  have B0 := Blk.new w (opV kd z n xd.a xd.l.length xd.cap fp fl fc).toArray 37
  have T0 := T.more b0
  have hKl := hid (fun k (hk : K k) => T.D.klt k hk)
  have hxl := hid T.P.lt
  generalize hW0 : w.alloc (.cells (opV kd z n xd.a xd.l.length xd.cap fp fl fc).toArray 37) = W0 at *
  have Th := hid T0
  have Sh := hid S
  have fh := hid hf
  have b0h := hid (b0.mono hB.size)
  have Bh := hid B0
  have P0 := T0.P
  have hBW := hid (Nat.le_trans hB.size b0.size)
  have s0 := b0.size
  have KB := rbroken_any r.p0 r.L.length r.c0 r.p1 r.Q.length r.c1 r.p2 r.O.length r.c2 r.off r.cut r.p5 r.F.length r.c5 r.fail S.f1 W0
  have htrb := S.trb
  generalize hff : bkF r.off r.fail = f' at *
  have SA : Sim m.after { r with fail := f' } := by rw [← hff]; exact S.after
  have hob : bkB r.off r.fail = false → r.off = false := fun h => by
    unfold bkB at h
    cases ho : r.off with
    | false => rfl
    | true => rw [ho] at h; cases h
  generalize hbb : bkB r.off r.fail = bk at *
  have SAh := hid SA
  replace KB := hid KB
  simp only [RM.cells, rdv] at P0
  have hib := hid hi
  have bah := hid (below2 hB b0 hB.size)
  have hobh := hid hob
  clear T T0 S hf hB b0 SA hff hbb hob
  obtain ⟨l0, m0, f0⟩ := B0
  obtain ⟨l1, m1, f1⟩ := P0
  have hlen := hid Sh.out.len
  have hz1d : decide (z < (r.L.length : Int)) = false := decide_eq_false hz1
  have hxh := hid hxd
  clear hxd
  have KFu := hid (fun W => full_any n hn0 hn1 W)
  clear hn0 hn1
  go_enter Try.func10, Try.ntmps10
  go_wp2_with fail
  refine KB.out.mono ?_
  rintro e w1 ⟨rfl, hb1⟩
  have T1 := Th.out.broken hb1 f'
  have b1 := Th.out.ref_low hBW.out hb1 (RM.cells { r with fail := f' })
  have S1 := sole_setAll (S := fun k => k = rx) rfl (RM.cells { r with fail := f' }) 0 w1
  have B1 := (Bh.out.more hb1).sole S1 (fun e => by have := hxl.out; omega)
  have PP := Th.out.P.more hb1
  have T1h := hid T1
  have b1h := hid (b0h.out.trans b1)
  have B1h := hid B1
  have q1h := hid ((hb1.mono hBW.out).trans (S1.below (B := wa.heap.size) (Nat.le_trans hBW.out hb1.size) fun k e => e ▸ Th.out.xB))
  have hW1 := hid (Nat.le_trans (Nat.le_trans hBW.out hb1.size) S1.size)
  simp only [RM.cells, rdv] at PP
  obtain ⟨lp, mp, fp1⟩ := PP
  clear T1 b1 S1 B1 hb1 KB l0 m0 f0 l1 m1 f1
  go_upto_region 6 with (fail)
  simp only [setAll, RM.cells, rdv, Nat.zero_add, Nat.reduceAdd] at T1h b1h B1h hW1 q1h
  clear lp mp fp1
  generalize World.setCell (World.setCell (World.setCell (World.setCell (World.setCell (World.setCell (World.setCell w1 _ _) _ _) _ _) _ _) _ _) _ _) _ _ = W1 at *
  obtain ⟨l0, m0, f0⟩ := B1h.out

  go_wp2_with fail
  refine (KFu.out W1).mono ?_
  rintro e w4 ⟨xn, rfl, hxl, hxt, hxa, hb4⟩
  have T2h := hid (T1h.out.more hb4)
  have b2h := hid (b1h.out.trans (hb4.mono hW1.out))
  have B2h := hid (B1h.out.more hb4)
  have hW2 := hid (Nat.le_trans hW1.out hb4.size)
  have hKl2 := hid (fun k (hk : K k) => T1h.out.D.klt k hk)
  have hxw := hid hxt
  have h256 : xn.l.length = 256 := by rw [hxl, fullL_len]
  have hxK := hid (fun (h : xn.l.length = 256) b' o (e : xn.a = some ⟨b', o, none⟩) => show ¬ K b' from fun hk => by rw [hxa] at e; cases e; have := hKl2.out _ hk; omega)
  have hxlen : (xn.l.length : Int) ≤ 9223372036854775807 := by omega
  rw [← h256]
  clear hxl hxt hxa hb4 KFu l0 m0 f0
  replace h256 := hid h256
  obtain ⟨l0, m0, f0⟩ := B2h.out
  cases bk with
  | true =>
    have KF := hid (wr_bad m b z K w4 T2h.out.D htrb xn.a xn.l.length xn.cap)
    go_wp2_with fail
    refine KF.out.mono ?_
    rintro e w2 ⟨rfl, D2, S2⟩
    have T3 := T2h.out.disk hW2.out D2 S2 (fun k hk => .inl hk)
    have E := hid (show StepW wa.heap.size w b rx i w2 from ⟨_, _, _, _, T3, SAh.out, DM.few.succ (show m.after.few i from fh.out), b2h.out.trans (T2h.out.low hW2.out S2)⟩)
    clear T3 D2 S2 KF l0 m0 f0
    go_wp2_with fail
    go_ret
    exact ⟨rfl, E.out⟩
  | false =>
    have hoffh : Hid (r.off = false) := hid (by first | exact hobh.out | exact hobh.out rfl)
    have hr : ¬ (0 ≤ z ∧ z < (m.Ls.length : Int)) := by rw [hlen.out]; omega
    have KF := hid (wr_far m b z K w4 T2h.out.D htrb hr xn.a xn.l.length xn.cap)
    go_wp2_with fail
    refine KF.out.mono ?_
    rintro e w2 ⟨rfl, D2, S2⟩
    have T3 := T2h.out.disk hW2.out D2 S2 (fun k hk => .inl hk)
    have E := hid (show StepW wa.heap.size w b rx i w2 from ⟨_, _, _, _, T3, SAh.out, DM.few.succ (show m.after.few i from fh.out), b2h.out.trans (T2h.out.low hW2.out S2)⟩)
    clear T3 D2 S2 KF l0 m0 f0
    go_wp2_with fail
    go_ret
    exact ⟨rfl, E.out⟩
set_option maxRecDepth 100000 in
set_option maxHeartbeats 8000000 in
theorem step_fullC (wa w : World) (hB : Below wa.heap.size wa w) (b rx : Nat) (m : DM) (K : Nat → Prop) (r : RM) (J : Nat → Prop) (T : Two wa.heap.size w b rx m K r J) (S : Sim m r) (i : Nat) (hf : m.few i) (hi : i ≤ 1000)
    (kd z n : Int) (hk : KindOf kd 0) (hz : (Lit.int .i64 z).wf = true) (hz0 : ¬ 0 ≤ z) (hn0 : 0 ≤ n) (hn1 : n ≤ 255) (xd : OcS) (hxd : xd.there wa) (fp : Option Addr) (fl fc : Nat) :
    Calls Try.prog 10 #[.pointer (some ⟨b, 0, none⟩), .pointer (some ⟨rx, 0, none⟩), .agg (opV kd z n xd.a xd.l.length xd.cap fp fl fc).toArray] w fun e w' => e = .returned (.bool true) ∧ StepW wa.heap.size w b rx i w' := by
  obtain ⟨u, hk1, hk2⟩ := hk
  have b0 : Below w.heap.size w (w.alloc (.cells (opV kd z n xd.a xd.l.length xd.cap fp fl fc).toArray 37)) := rbelow_one _ _
  have B0 := Blk.new w (opV kd z n xd.a xd.l.length xd.cap fp fl fc).toArray 37
  have T0 := T.more b0
  have hKl := hid (fun k (hk : K k) => T.D.klt k hk)
  have hxl := hid T.P.lt
  generalize hW0 : w.alloc (.cells (opV kd z n xd.a xd.l.length xd.cap fp fl fc).toArray 37) = W0 at *
  have Th := hid T0
  have Sh := hid S
  have fh := hid hf
  have b0h := hid (b0.mono hB.size)
  have Bh := hid B0
  have P0 := T0.P
  have hBW := hid (Nat.le_trans hB.size b0.size)
  have s0 := b0.size
  have KB := rbroken_any r.p0 r.L.length r.c0 r.p1 r.Q.length r.c1 r.p2 r.O.length r.c2 r.off r.cut r.p5 r.F.length r.c5 r.fail S.f1 W0
  have htrb := S.trb
  generalize hff : bkF r.off r.fail = f' at *
  have SA : Sim m.after { r with fail := f' } := by rw [← hff]; exact S.after
  have hob : bkB r.off r.fail = false → r.off = false := fun h => by
    unfold bkB at h
    cases ho : r.off with
    | false => rfl
    | true => rw [ho] at h; cases h
  generalize hbb : bkB r.off r.fail = bk at *
  have SAh := hid SA
  replace KB := hid KB
  simp only [RM.cells, rdv] at P0
  have hib := hid hi
  have bah := hid (below2 hB b0 hB.size)
  have hobh := hid hob
  clear T T0 S hf hB b0 SA hff hbb hob
  obtain ⟨l0, m0, f0⟩ := B0
  obtain ⟨l1, m1, f1⟩ := P0
  have hlen := hid Sh.out.len
  have hxh := hid hxd
  clear hxd
  have KFu := hid (fun W => full_any n hn0 hn1 W)
  clear hn0 hn1
  go_enter Try.func10, Try.ntmps10
  go_wp2_with fail
  refine KB.out.mono ?_
  rintro e w1 ⟨rfl, hb1⟩
  have T1 := Th.out.broken hb1 f'
  have b1 := Th.out.ref_low hBW.out hb1 (RM.cells { r with fail := f' })
  have S1 := sole_setAll (S := fun k => k = rx) rfl (RM.cells { r with fail := f' }) 0 w1
  have B1 := (Bh.out.more hb1).sole S1 (fun e => by have := hxl.out; omega)
  have PP := Th.out.P.more hb1
  have T1h := hid T1
  have b1h := hid (b0h.out.trans b1)
  have B1h := hid B1
  have q1h := hid ((hb1.mono hBW.out).trans (S1.below (B := wa.heap.size) (Nat.le_trans hBW.out hb1.size) fun k e => e ▸ Th.out.xB))
  have hW1 := hid (Nat.le_trans (Nat.le_trans hBW.out hb1.size) S1.size)
  simp only [RM.cells, rdv] at PP
  obtain ⟨lp, mp, fp1⟩ := PP
  clear T1 b1 S1 B1 hb1 KB l0 m0 f0 l1 m1 f1
  go_upto_region 6 with (fail)
  simp only [setAll, RM.cells, rdv, Nat.zero_add, Nat.reduceAdd] at T1h b1h B1h hW1 q1h
  clear lp mp fp1
  generalize World.setCell (World.setCell (World.setCell (World.setCell (World.setCell (World.setCell (World.setCell w1 _ _) _ _) _ _) _ _) _ _) _ _) _ _ = W1 at *
  obtain ⟨l0, m0, f0⟩ := B1h.out

  go_wp2_with fail
  refine (KFu.out W1).mono ?_
  rintro e w4 ⟨xn, rfl, hxl, hxt, hxa, hb4⟩
  have T2h := hid (T1h.out.more hb4)
  have b2h := hid (b1h.out.trans (hb4.mono hW1.out))
  have B2h := hid (B1h.out.more hb4)
  have hW2 := hid (Nat.le_trans hW1.out hb4.size)
  have hKl2 := hid (fun k (hk : K k) => T1h.out.D.klt k hk)
  have hxw := hid hxt
  have h256 : xn.l.length = 256 := by rw [hxl, fullL_len]
  have hxK := hid (fun (h : xn.l.length = 256) b' o (e : xn.a = some ⟨b', o, none⟩) => show ¬ K b' from fun hk => by rw [hxa] at e; cases e; have := hKl2.out _ hk; omega)
  have hxlen : (xn.l.length : Int) ≤ 9223372036854775807 := by omega
  rw [← h256]
  clear hxl hxt hxa hb4 KFu l0 m0 f0
  replace h256 := hid h256
  obtain ⟨l0, m0, f0⟩ := B2h.out
  cases bk with
  | true =>
    have KF := hid (wr_bad m b z K w4 T2h.out.D htrb xn.a xn.l.length xn.cap)
    go_wp2_with fail
    refine KF.out.mono ?_
    rintro e w2 ⟨rfl, D2, S2⟩
    have T3 := T2h.out.disk hW2.out D2 S2 (fun k hk => .inl hk)
    have E := hid (show StepW wa.heap.size w b rx i w2 from ⟨_, _, _, _, T3, SAh.out, DM.few.succ (show m.after.few i from fh.out), b2h.out.trans (T2h.out.low hW2.out S2)⟩)
    clear T3 D2 S2 KF l0 m0 f0
    go_wp2_with fail
    go_ret
    exact ⟨rfl, E.out⟩
  | false =>
    have hoffh : Hid (r.off = false) := hid (by first | exact hobh.out | exact hobh.out rfl)
    have hr : ¬ (0 ≤ z ∧ z < (m.Ls.length : Int)) := by rw [hlen.out]; omega
    have KF := hid (wr_far m b z K w4 T2h.out.D htrb hr xn.a xn.l.length xn.cap)
    go_wp2_with fail
    refine KF.out.mono ?_
    rintro e w2 ⟨rfl, D2, S2⟩
    have T3 := T2h.out.disk hW2.out D2 S2 (fun k hk => .inl hk)
    have E := hid (show StepW wa.heap.size w b rx i w2 from ⟨_, _, _, _, T3, SAh.out, DM.few.succ (show m.after.few i from fh.out), b2h.out.trans (T2h.out.low hW2.out S2)⟩)
    clear T3 D2 S2 KF l0 m0 f0
    go_wp2_with fail
    go_ret
    exact ⟨rfl, E.out⟩
theorem step_full (wa w : World) (hB : Below wa.heap.size wa w) (b rx : Nat) (m : DM) (K : Nat → Prop) (r : RM) (J : Nat → Prop) (T : Two wa.heap.size w b rx m K r J) (S : Sim m r) (i : Nat) (hf : m.few i) (hi : i ≤ 1000)
    (kd z n : Int) (hk : KindOf kd 0) (hz : (Lit.int .i64 z).wf = true) (hn0 : 0 ≤ n) (hn1 : n ≤ 255) (xd : OcS) (hxd : xd.there wa) (fp : Option Addr) (fl fc : Nat) :
    Calls Try.prog 10 #[.pointer (some ⟨b, 0, none⟩), .pointer (some ⟨rx, 0, none⟩), .agg (opV kd z n xd.a xd.l.length xd.cap fp fl fc).toArray] w fun e w' => e = .returned (.bool true) ∧ StepW wa.heap.size w b rx i w' := by
  by_cases hz0 : 0 ≤ z
  · by_cases hz1 : z < (r.L.length : Int)
    · exact step_fullA wa w hB b rx m K r J T S i hf hi kd z n hk hz hz0 hz1 hn0 hn1 xd hxd fp fl fc
    · exact step_fullB wa w hB b rx m K r J T S i hf hi kd z n hk hz hz0 hz1 hn0 hn1 xd hxd fp fl fc
  · exact step_fullC wa w hB b rx m K r J T S i hf hi kd z n hk hz hz0 hn0 hn1 xd hxd fp fl fc
end Go.Proofs.Ytpgibngohbohdaa

/-
  The law of the disk: a step: Read.
-/




namespace Go.Proofs.Ytpgibngohbohdaa
open Go.RowKit Go.Maps
set_option linter.unusedVariables false
set_option linter.unusedSimpArgs false

theorem RM.cur_there (m : RM) {J : Nat → Prop} {w : World} (h : RefM w m J) (k : Nat) (hk : k < m.L.length) : (m.cur (k : Int)).there w := by
  unfold RM.cur
  cases hl : lastI (m.Q.map (·.at_)) (k : Int) with
  | none => exact (h.LO _ (ocA_mem m.L _ (by rw [Int.toNat_natCast]; exact hk))).1
  | some i =>
    have := lastI_lt _ _ _ hl
    rw [List.length_map] at this
    exact (h.QO _ (atR_mem (T := rwT) m.Q i this)).1.1
set_option maxRecDepth 100000 in
set_option maxHeartbeats 8000000 in
theorem step_readA (wa w : World) (hB : Below wa.heap.size wa w) (b rx : Nat) (m : DM) (K : Nat → Prop) (r : RM) (J : Nat → Prop) (T : Two wa.heap.size w b rx m K r J) (S : Sim m r) (i : Nat) (hf : m.few i) (hi : i ≤ 1000)
    (kd z n : Int) (hk : KindOf kd 2) (hz : (Lit.int .i64 z).wf = true) (hz0 : 0 ≤ z) (hz1 : z < (r.L.length : Int)) (da : Option Addr) (dl dc : Nat) (fp : Option Addr) (fl fc : Nat) :
    Calls Try.prog 10 #[.pointer (some ⟨b, 0, none⟩), .pointer (some ⟨rx, 0, none⟩), .agg (opV kd z n da dl dc fp fl fc).toArray] w fun e w' => e = .returned (.bool true) ∧ StepW wa.heap.size w b rx i w' := by
  obtain ⟨u, hk1, hk2⟩ := hk
  have b0 : Below w.heap.size w (w.alloc (.cells (opV kd z n da dl dc fp fl fc).toArray 37)) := rbelow_one _ _
  have B0 := Blk.new w (opV kd z n da dl dc fp fl fc).toArray 37
  have T0 := T.more b0
  have hKl := hid (fun k (hk : K k) => T.D.klt k hk)
  have hxl := hid T.P.lt
  generalize hW0 : w.alloc (.cells (opV kd z n da dl dc fp fl fc).toArray 37) = W0 at *
  have Th := hid T0
  have Sh := hid S
  have fh := hid hf
  have b0h := hid (b0.mono hB.size)
  have Bh := hid B0
  have P0 := T0.P
  have hBW := hid (Nat.le_trans hB.size b0.size)
  have s0 := b0.size
  have KB := rbroken_any r.p0 r.L.length r.c0 r.p1 r.Q.length r.c1 r.p2 r.O.length r.c2 r.off r.cut r.p5 r.F.length r.c5 r.fail S.f1 W0
  have htrb := S.trb
  generalize hff : bkF r.off r.fail = f' at *
  have SA : Sim m.after { r with fail := f' } := by rw [← hff]; exact S.after
  have hob : bkB r.off r.fail = false → r.off = false := fun h => by
    unfold bkB at h
    cases ho : r.off with
    | false => rfl
    | true => rw [ho] at h; cases h
  generalize hbb : bkB r.off r.fail = bk at *
  have SAh := hid SA
  replace KB := hid KB
  simp only [RM.cells, rdv] at P0
  have hib := hid hi
  have bah := hid (below2 hB b0 hB.size)
  have hobh := hid hob
  clear T T0 S hf hB b0 SA hff hbb hob
  obtain ⟨l0, m0, f0⟩ := B0
  obtain ⟨l1, m1, f1⟩ := P0
  have hlen := hid Sh.out.len
  go_enter Try.func10, Try.ntmps10
  go_wp2_with fail
  refine KB.out.mono ?_
  rintro e w1 ⟨rfl, hb1⟩
  have T1 := Th.out.broken hb1 f'
  have b1 := Th.out.ref_low hBW.out hb1 (RM.cells { r with fail := f' })
  have S1 := sole_setAll (S := fun k => k = rx) rfl (RM.cells { r with fail := f' }) 0 w1
  have B1 := (Bh.out.more hb1).sole S1 (fun e => by have := hxl.out; omega)
  have PP := Th.out.P.more hb1
  have T1h := hid T1
  have b1h := hid (b0h.out.trans b1)
  have B1h := hid B1
  have q1h := hid ((hb1.mono hBW.out).trans (S1.below (B := wa.heap.size) (Nat.le_trans hBW.out hb1.size) fun k e => e ▸ Th.out.xB))
  have hW1 := hid (Nat.le_trans (Nat.le_trans hBW.out hb1.size) S1.size)
  simp only [RM.cells, rdv] at PP
  obtain ⟨lp, mp, fp1⟩ := PP
  clear T1 b1 S1 B1 hb1 KB l0 m0 f0 l1 m1 f1
  go_upto_region 6 with (fail)
  simp only [setAll, RM.cells, rdv, Nat.zero_add, Nat.reduceAdd] at T1h b1h B1h hW1 q1h
  clear lp mp fp1
  generalize World.setCell (World.setCell (World.setCell (World.setCell (World.setCell (World.setCell (World.setCell w1 _ _) _ _) _ _) _ _) _ _) _ _) _ _ = W1 at *
  obtain ⟨l0, m0, f0⟩ := B1h.out

  cases bk with
  | true =>
    have KF := hid (read_bad m b z K W1 T1h.out.D htrb)
    go_wp2_with fail
    refine KF.out.mono ?_
    rintro e w2 ⟨rfl, D2, S2⟩
    have T3 := T1h.out.disk hW1.out D2 S2 (fun k hk => .inl hk)
    have E := hid (show StepW wa.heap.size w b rx i w2 from ⟨_, _, _, _, T3, SAh.out, DM.few.succ (show m.after.few i from fh.out), b1h.out.trans (T1h.out.low hW1.out S2)⟩)
    clear T3 D2 S2 KF l0 m0 f0
    go_wp2_with fail
    go_ret
    exact ⟨rfl, E.out⟩
  | false =>
    have hoffh : Hid (r.off = false) := hid (by first | exact hobh.out | exact hobh.out rfl)
    have KF := hid (read_any m b z hz K W1 T1h.out.D htrb)
    go_wp2_with fail
    refine KF.out.mono ?_
    rintro e w2 ⟨hin, hout, D2, S2⟩
    have T2 := T1h.out.disk hW1.out D2 S2 (fun k hk => .inl hk)
    have b2 := hid (b1h.out.trans (T1h.out.low hW1.out S2))
    have B2 := B1h.out.sole S2 (fun e => by have := hKl.out _ e; omega)
    have hw2 := hid (Nat.le_trans hW1.out S2.size)
    have T2h := hid T2
    have P2 := T2.P
    simp only [RM.cells, rdv] at P2
    clear D2 S2 KF l0 m0 f0
    obtain ⟨v, rfl, hN⟩ := hin (by rw [hlen.out]; exact ⟨hz0, hz1⟩)
    obtain ⟨a6, c6, rfl, O6⟩ := hN
    obtain ⟨k, rfl⟩ : ∃ k : Nat, z = (k : Int) := ⟨z.toNat, by omega⟩
    have hkl : k < r.L.length := by omega
    have hO := hid (Octs.of_own O6)
    have KRd := hid (fun W (hb : Below w2.heap.size w2 W) => show Calls Try.prog 39 #[.agg (rdv r.p0 r.L.length r.c0 r.p1 r.Q.length r.c1 r.p2 r.O.length r.c2 r.off r.cut r.p5 r.F.length r.c5 f').toArray, .int .i64 (k : Int)] W fun e w' => e = .returned (.slice (r.cur (k : Int)).a (r.cur (k : Int)).l.length (r.cur (k : Int)).cap) ∧ Below W.heap.size W w' from rread_any { r with fail := f' } _ W (T2h.out.more hb).R k hkl)
    have hthere := fun W (hb : Below w2.heap.size w2 W) => show (r.cur (k : Int)).there W from ({ r with fail := f' } : RM).cur_there (T2h.out.more hb).R k hkl
    have heq := Sh.out.cur (k : Int)
    have E := hid (fun W (hb : Below w2.heap.size w2 W) => show StepW wa.heap.size w b rx i W from ⟨_, _, _, _, T2h.out.more hb, SAh.out, DM.few.succ (show m.after.few i from fh.out), b2.out.trans (hb.mono hw2.out)⟩)
    rw [heq] at hO ⊢
    have kx := hid (fun (W : World) (hb : Below w2.heap.size w2 W) => show (convert 35 9 (.slice a6 (r.cur (k : Int)).l.length c6)).run Try.prog W = .ok (.string (textOf (r.cur (k : Int)).l)) W from conv_octs (hO.out.more hb) c6)
    have ky := hid (fun (W : World) (hb : Below w2.heap.size w2 W) => show (convert 35 9 (.slice (r.cur (k : Int)).a (r.cur (k : Int)).l.length (r.cur (k : Int)).cap)).run Try.prog W = .ok (.string (textOf (r.cur (k : Int)).l)) W from conv_octs (hthere W hb).1 _)
    have htt : ((textOf (r.cur (k : Int)).l).toList == (textOf (r.cur (k : Int)).l).toList) = true := by simp
    have B2h := hid B2
    have P2h := hid P2
    clear hin hout T2 O6 T2h heq hthere hO
    generalize textOf (r.cur (k : Int)).l = tx at *
    generalize (r.cur (k : Int)).l.length = lc at *
    generalize (r.cur (k : Int)).a = ac at *
    generalize (r.cur (k : Int)).cap = cc at *
    obtain ⟨l0, m0, f0⟩ := B2
    obtain ⟨l1, m1, f1⟩ := P2
    go_wp2_with fail
    clear l0 m0 f0 l1 m1 f1
    have q0 := fun u : Later w2 => u.blk B2h.out
    have q1 := fun u : Later w2 => u.blk P2h.out
    have q2 := fun u : Later w2 => kx.out u.val u.h
    have q3 := fun u : Later w2 => ky.out u.val u.h
    refine wp_region_late 14 (by kernel_rfl) (by kernel_rfl) ?_
    simp only [List.take_succ_cons, List.take_zero, List.drop_succ_cons, List.drop_zero]
    iterate 14 (go_big_quiet_step ((go_at_call 39; with_reducible exact late_call (KRd.out _ (Later.h _)))))
    refine wpQuiet_nil ?_
    intro w3 h3'
    have h3 := late_out h3'
    clear h3' q0 q1 q2 q3 KRd
    go_wp2_with fail
    go_ret
    exact ⟨rfl, E.out _ h3⟩
set_option maxRecDepth 100000 in
set_option maxHeartbeats 8000000 in
theorem step_readB (wa w : World) (hB : Below wa.heap.size wa w) (b rx : Nat) (m : DM) (K : Nat → Prop) (r : RM) (J : Nat → Prop) (T : Two wa.heap.size w b rx m K r J) (S : Sim m r) (i : Nat) (hf : m.few i) (hi : i ≤ 1000)
    (kd z n : Int) (hk : KindOf kd 2) (hz : (Lit.int .i64 z).wf = true) (hz0 : 0 ≤ z) (hz1 : ¬ z < (r.L.length : Int)) (da : Option Addr) (dl dc : Nat) (fp : Option Addr) (fl fc : Nat) :
    Calls Try.prog 10 #[.pointer (some ⟨b, 0, none⟩), .pointer (some ⟨rx, 0, none⟩), .agg (opV kd z n da dl dc fp fl fc).toArray] w fun e w' => e = .returned (.bool true) ∧ StepW wa.heap.size w b rx i w' := by
  obtain ⟨u, hk1, hk2⟩ := hk
  have b0 : Below w.heap.size w (w.alloc (.cells (opV kd z n da dl dc fp fl fc).toArray 37)) := rbelow_one _ _
  have B0 := Blk.new w (opV kd z n da dl dc fp fl fc).toArray 37
  have T0 := T.more b0
  have hKl := hid (fun k (hk : K k) => T.D.klt k hk)
  have hxl := hid T.P.lt
  generalize hW0 : w.alloc (.cells (opV kd z n da dl dc fp fl fc).toArray 37) = W0 at *
  have Th := hid T0
  have Sh := hid S
  have fh := hid hf
  have b0h := hid (b0.mono hB.size)
  have Bh := hid B0
  have P0 := T0.P
  have hBW := hid (Nat.le_trans hB.size b0.size)
  have s0 := b0.size
  have KB := rbroken_any r.p0 r.L.length r.c0 r.p1 r.Q.length r.c1 r.p2 r.O.length r.c2 r.off r.cut r.p5 r.F.length r.c5 r.fail S.f1 W0
  have htrb := S.trb
  generalize hff : bkF r.off r.fail = f' at *
  have SA : Sim m.after { r with fail := f' } := by rw [← hff]; exact S.after
  have hob : bkB r.off r.fail = false → r.off = false := fun h => by
    unfold bkB at h
    cases ho : r.off with
    | false => rfl
    | true => rw [ho] at h; cases h
  generalize hbb : bkB r.off r.fail = bk at *
  have SAh := hid SA
  replace KB := hid KB
  simp only [RM.cells, rdv] at P0
  have hib := hid hi
  have bah := hid (below2 hB b0 hB.size)
  have hobh := hid hob
  clear T T0 S hf hB b0 SA hff hbb hob
  obtain ⟨l0, m0, f0⟩ := B0
  obtain ⟨l1, m1, f1⟩ := P0
  have hlen := hid Sh.out.len
  have hz1d : decide (z < (r.L.length : Int)) = false := decide_eq_false hz1
  go_enter Try.func10, Try.ntmps10
  go_wp2_with fail
  refine KB.out.mono ?_
  rintro e w1 ⟨rfl, hb1⟩
  have T1 := Th.out.broken hb1 f'
  have b1 := Th.out.ref_low hBW.out hb1 (RM.cells { r with fail := f' })
  have S1 := sole_setAll (S := fun k => k = rx) rfl (RM.cells { r with fail := f' }) 0 w1
  have B1 := (Bh.out.more hb1).sole S1 (fun e => by have := hxl.out; omega)
  have PP := Th.out.P.more hb1
  have T1h := hid T1
  have b1h := hid (b0h.out.trans b1)
  have B1h := hid B1
  have q1h := hid ((hb1.mono hBW.out).trans (S1.below (B := wa.heap.size) (Nat.le_trans hBW.out hb1.size) fun k e => e ▸ Th.out.xB))
  have hW1 := hid (Nat.le_trans (Nat.le_trans hBW.out hb1.size) S1.size)
  simp only [RM.cells, rdv] at PP
  obtain ⟨lp, mp, fp1⟩ := PP
  clear T1 b1 S1 B1 hb1 KB l0 m0 f0 l1 m1 f1
  go_upto_region 6 with (fail)
  simp only [setAll, RM.cells, rdv, Nat.zero_add, Nat.reduceAdd] at T1h b1h B1h hW1 q1h
  clear lp mp fp1
  generalize World.setCell (World.setCell (World.setCell (World.setCell (World.setCell (World.setCell (World.setCell w1 _ _) _ _) _ _) _ _) _ _) _ _) _ _ = W1 at *
  obtain ⟨l0, m0, f0⟩ := B1h.out

  cases bk with
  | true =>
    have KF := hid (read_bad m b z K W1 T1h.out.D htrb)
    go_wp2_with fail
    refine KF.out.mono ?_
    rintro e w2 ⟨rfl, D2, S2⟩
    have T3 := T1h.out.disk hW1.out D2 S2 (fun k hk => .inl hk)
    have E := hid (show StepW wa.heap.size w b rx i w2 from ⟨_, _, _, _, T3, SAh.out, DM.few.succ (show m.after.few i from fh.out), b1h.out.trans (T1h.out.low hW1.out S2)⟩)
    clear T3 D2 S2 KF l0 m0 f0
    go_wp2_with fail
    go_ret
    exact ⟨rfl, E.out⟩
  | false =>
    have hoffh : Hid (r.off = false) := hid (by first | exact hobh.out | exact hobh.out rfl)
    have KF := hid (read_any m b z hz K W1 T1h.out.D htrb)
    go_wp2_with fail
    refine KF.out.mono ?_
    rintro e w2 ⟨hin, hout, D2, S2⟩
    have T2 := T1h.out.disk hW1.out D2 S2 (fun k hk => .inl hk)
    have E := hid (show StepW wa.heap.size w b rx i w2 from ⟨_, _, _, _, T2, SAh.out, DM.few.succ (show m.after.few i from fh.out), b1h.out.trans (T1h.out.low hW1.out S2)⟩)
    obtain rfl := hout (by rw [hlen.out]; omega)
    clear hin hout T2 D2 S2 KF l0 m0 f0
    go_wp2_with fail
    go_ret
    exact ⟨rfl, E.out⟩
set_option maxRecDepth 100000 in
set_option maxHeartbeats 8000000 in
theorem step_readC (wa w : World) (hB : Below wa.heap.size wa w) (b rx : Nat) (m : DM) (K : Nat → Prop) (r : RM) (J : Nat → Prop) (T : Two wa.heap.size w b rx m K r J) (S : Sim m r) (i : Nat) (hf : m.few i) (hi : i ≤ 1000)
    (kd z n : Int) (hk : KindOf kd 2) (hz : (Lit.int .i64 z).wf = true) (hz0 : ¬ 0 ≤ z) (da : Option Addr) (dl dc : Nat) (fp : Option Addr) (fl fc : Nat) :
    Calls Try.prog 10 #[.pointer (some ⟨b, 0, none⟩), .pointer (some ⟨rx, 0, none⟩), .agg (opV kd z n da dl dc fp fl fc).toArray] w fun e w' => e = .returned (.bool true) ∧ StepW wa.heap.size w b rx i w' := by
  obtain ⟨u, hk1, hk2⟩ := hk
  have b0 : Below w.heap.size w (w.alloc (.cells (opV kd z n da dl dc fp fl fc).toArray 37)) := rbelow_one _ _
  have B0 := Blk.new w (opV kd z n da dl dc fp fl fc).toArray 37
  have T0 := T.more b0
  have hKl := hid (fun k (hk : K k) => T.D.klt k hk)
  have hxl := hid T.P.lt
  generalize hW0 : w.alloc (.cells (opV kd z n da dl dc fp fl fc).toArray 37) = W0 at *
  have Th := hid T0
  have Sh := hid S
  have fh := hid hf
  have b0h := hid (b0.mono hB.size)
  have Bh := hid B0
  have P0 := T0.P
  have hBW := hid (Nat.le_trans hB.size b0.size)
  have s0 := b0.size
  have KB := rbroken_any r.p0 r.L.length r.c0 r.p1 r.Q.length r.c1 r.p2 r.O.length r.c2 r.off r.cut r.p5 r.F.length r.c5 r.fail S.f1 W0
  have htrb := S.trb
  generalize hff : bkF r.off r.fail = f' at *
  have SA : Sim m.after { r with fail := f' } := by rw [← hff]; exact S.after
  have hob : bkB r.off r.fail = false → r.off = false := fun h => by
    unfold bkB at h
    cases ho : r.off with
    | false => rfl
    | true => rw [ho] at h; cases h
  generalize hbb : bkB r.off r.fail = bk at *
  have SAh := hid SA
  replace KB := hid KB
  simp only [RM.cells, rdv] at P0
  have hib := hid hi
  have bah := hid (below2 hB b0 hB.size)
  have hobh := hid hob
  clear T T0 S hf hB b0 SA hff hbb hob
  obtain ⟨l0, m0, f0⟩ := B0
  obtain ⟨l1, m1, f1⟩ := P0
  have hlen := hid Sh.out.len
  go_enter Try.func10, Try.ntmps10
  go_wp2_with fail
  refine KB.out.mono ?_
  rintro e w1 ⟨rfl, hb1⟩
  have T1 := Th.out.broken hb1 f'
  have b1 := Th.out.ref_low hBW.out hb1 (RM.cells { r with fail := f' })
  have S1 := sole_setAll (S := fun k => k = rx) rfl (RM.cells { r with fail := f' }) 0 w1
  have B1 := (Bh.out.more hb1).sole S1 (fun e => by have := hxl.out; omega)
  have PP := Th.out.P.more hb1
  have T1h := hid T1
  have b1h := hid (b0h.out.trans b1)
  have B1h := hid B1
  have q1h := hid ((hb1.mono hBW.out).trans (S1.below (B := wa.heap.size) (Nat.le_trans hBW.out hb1.size) fun k e => e ▸ Th.out.xB))
  have hW1 := hid (Nat.le_trans (Nat.le_trans hBW.out hb1.size) S1.size)
  simp only [RM.cells, rdv] at PP
  obtain ⟨lp, mp, fp1⟩ := PP
  clear T1 b1 S1 B1 hb1 KB l0 m0 f0 l1 m1 f1
  go_upto_region 6 with (fail)
  simp only [setAll, RM.cells, rdv, Nat.zero_add, Nat.reduceAdd] at T1h b1h B1h hW1 q1h
  clear lp mp fp1
  generalize World.setCell (World.setCell (World.setCell (World.setCell (World.setCell (World.setCell (World.setCell w1 _ _) _ _) _ _) _ _) _ _) _ _) _ _ = W1 at *
  obtain ⟨l0, m0, f0⟩ := B1h.out

  cases bk with
  | true =>
    have KF := hid (read_bad m b z K W1 T1h.out.D htrb)
    go_wp2_with fail
    refine KF.out.mono ?_
    rintro e w2 ⟨rfl, D2, S2⟩
    have T3 := T1h.out.disk hW1.out D2 S2 (fun k hk => .inl hk)
    have E := hid (show StepW wa.heap.size w b rx i w2 from ⟨_, _, _, _, T3, SAh.out, DM.few.succ (show m.after.few i from fh.out), b1h.out.trans (T1h.out.low hW1.out S2)⟩)
    clear T3 D2 S2 KF l0 m0 f0
    go_wp2_with fail
    go_ret
    exact ⟨rfl, E.out⟩
  | false =>
    have hoffh : Hid (r.off = false) := hid (by first | exact hobh.out | exact hobh.out rfl)
    have KF := hid (read_any m b z hz K W1 T1h.out.D htrb)
    go_wp2_with fail
    refine KF.out.mono ?_
    rintro e w2 ⟨hin, hout, D2, S2⟩
    have T2 := T1h.out.disk hW1.out D2 S2 (fun k hk => .inl hk)
    have E := hid (show StepW wa.heap.size w b rx i w2 from ⟨_, _, _, _, T2, SAh.out, DM.few.succ (show m.after.few i from fh.out), b1h.out.trans (T1h.out.low hW1.out S2)⟩)
    obtain rfl := hout (by rw [hlen.out]; omega)
    clear hin hout T2 D2 S2 KF l0 m0 f0
    go_wp2_with fail
    go_ret
    exact ⟨rfl, E.out⟩
theorem step_read (wa w : World) (hB : Below wa.heap.size wa w) (b rx : Nat) (m : DM) (K : Nat → Prop) (r : RM) (J : Nat → Prop) (T : Two wa.heap.size w b rx m K r J) (S : Sim m r) (i : Nat) (hf : m.few i) (hi : i ≤ 1000)
    (kd z n : Int) (hk : KindOf kd 2) (hz : (Lit.int .i64 z).wf = true) (da : Option Addr) (dl dc : Nat) (fp : Option Addr) (fl fc : Nat) :
    Calls Try.prog 10 #[.pointer (some ⟨b, 0, none⟩), .pointer (some ⟨rx, 0, none⟩), .agg (opV kd z n da dl dc fp fl fc).toArray] w fun e w' => e = .returned (.bool true) ∧ StepW wa.heap.size w b rx i w' := by
  by_cases hz0 : 0 ≤ z
  · by_cases hz1 : z < (r.L.length : Int)
    · exact step_readA wa w hB b rx m K r J T S i hf hi kd z n hk hz hz0 hz1 da dl dc fp fl fc
    · exact step_readB wa w hB b rx m K r J T S i hf hi kd z n hk hz hz0 hz1 da dl dc fp fl fc
  · exact step_readC wa w hB b rx m K r J T S i hf hi kd z n hk hz hz0 da dl dc fp fl fc
end Go.Proofs.Ytpgibngohbohdaa

/-
  The law of the disk: whatever is called.
-/








namespace Go.Proofs.Ytpgibngohbohdaa
open Go.RowKit Go.Maps
set_option linter.unusedVariables false
set_option linter.unusedSimpArgs false

theorem kind_of (kd : Int) : ∃ k, 0 ≤ k ∧ k < 7 ∧ KindOf kd k := by
  have h1 : -7 < Int.tmod kd 7 ∧ Int.tmod kd 7 < 7 := by
    have a := Int.lt_tmod_of_pos kd (show (0 : Int) < 7 by decide)
    have b := Int.tmod_lt_of_pos kd (show (0 : Int) < 7 by decide)
    exact ⟨a, b⟩
  have h2 : wrap64 (Int.tmod kd 7 + 7) = Int.tmod kd 7 + 7 := IntWalk.wrap64_in _ ⟨by omega, by omega⟩
  have h3 : Int.tmod (Int.tmod kd 7 + 7) 7 = (Int.tmod kd 7 + 7) % 7 := Int.tmod_eq_emod_of_nonneg (by omega)
  exact ⟨(Int.tmod kd 7 + 7) % 7, by omega, by omega, _, h2, h3⟩
theorem step_any (wa w : World) (hB : Below wa.heap.size wa w) (b rx : Nat) (m : DM) (K : Nat → Prop) (r : RM) (J : Nat → Prop) (T : Two wa.heap.size w b rx m K r J) (S : Sim m r) (i : Nat) (hf : m.few i) (hi : i ≤ 1000) (o : OpS) (ok : o.ok wa) :
    Calls Try.prog 10 #[.pointer (some ⟨b, 0, none⟩), .pointer (some ⟨rx, 0, none⟩), .agg (opT.cells o).toArray] w fun e w' => e = .returned (.bool true) ∧ StepW wa.heap.size w b rx i w' := by
  obtain ⟨k, h0, h7, hk⟩ := kind_of o.kd
  have hz1 := ok.z1
  rcases (show k = 0 ∨ k = 1 ∨ k = 2 ∨ k = 3 ∨ k = 4 ∨ k = 5 ∨ k = 6 by omega) with rfl | rfl | rfl | rfl | rfl | rfl | rfl
  · exact step_full wa w hB b rx m K r J T S i hf hi o.kd o.z o.n hk ok.zw ok.n0 ok.n1 o.x ok.x o.fp o.F.length o.fc
  · exact step_flush wa w hB b rx m K r J T S i hf hi o.kd o.z o.n hk o.x.a o.x.l.length o.x.cap o.fp o.F.length o.fc
  · exact step_read wa w hB b rx m K r J T S i hf hi o.kd o.z o.n hk ok.zw o.x.a o.x.l.length o.x.cap o.fp o.F.length o.fc
  · exact step_cut wa w hB b rx m K r J T S i hf (by omega) o.kd o.z o.n hk ok.zw hz1 o.x.a o.x.l.length o.x.cap o.fp o.fc o.F ok.F ok.Fl ok.Fw
  · exact step_power wa w hB b rx m K r J T S i hf (by omega) o.kd o.z o.n hk o.x.a o.x.l.length o.x.cap o.fp o.fc o.F ok.F ok.Fl ok.Fw
  · exact step_fail wa.heap.size w hB.size b rx m K r J T S i hf o.kd o.z o.n hk ok.zw hz1 o.x.a o.x.l.length o.x.cap o.fp o.F.length o.fc
  · exact step_put wa w hB b rx m K r J T S i hf hi o.kd o.z o.n hk ok.zw o.x ok.x o.fp o.F.length o.fc
/-- Both, new. -/
theorem sim_new (S0 N : Nat) (L : List OcS) (h : NewD (newM S0 N L) N) (p0 : Option Addr) (c0 : Nat) (L2 : List OcS) (p2 : Option Addr) (c2 : Nat) (hl : L2.length = N) (hz : ∀ x ∈ L2, x.l = zerosN 256) : Sim (newM S0 N L) (newR p0 c0 L2 p2 c2 (List.replicate N false)) := by
  refine ⟨rfl, ⟨?_, fun z hz => ?_⟩, rfl, .inl ⟨rfl, rfl⟩, fun _ => .inl ⟨rfl, rfl⟩, Int.le_refl _, (by show (0 : Int) ≤ 9223372036854775807; decide), nofun, (by show (-1 : Int) ≤ 9223372036854775807; decide)⟩
  · have e1 : L.map OcS.l = List.replicate N (zerosN 256) := List.eq_replicate_iff.2 ⟨by rw [List.length_map]; exact h.S, fun x hx => by
      obtain ⟨y, hy, rfl⟩ := List.mem_map.1 hx
      exact h.Z y hy⟩
    have e2 : L2.map OcS.l = List.replicate N (zerosN 256) := List.eq_replicate_iff.2 ⟨by rw [List.length_map]; exact hl, fun x hx => by
      obtain ⟨y, hy, rfl⟩ := List.mem_map.1 hx
      exact hz y hy⟩
    exact e1.trans e2.symm
  · refine (h.O z).trans ?_
    show false = oddF (List.replicate N false) z
    unfold oddF
    simp [List.getD_eq_getElem?_getD, List.getElem?_replicate]
    intro _ _
    split <;> rfl
theorem oddN_succ (k : Nat) (f : Nat → Bool) : oddN (k + 1) f = if f k then oddN k f ++ [(k : Int)] else oddN k f := by
  unfold oddN
  rw [List.range_succ, List.filter_append, List.map_append]
  cases h : f k <;> simp [h]
theorem oddN_len (k : Nat) (f : Nat → Bool) : (oddN k f).length ≤ k := by
  unfold oddN
  rw [List.length_map]
  exact Nat.le_trans (List.length_filter_le _ _) (by simp)
theorem odd_grow {B : Nat} {w : World} {v : Value} {L : List Int} (O : RowOwn fatT w B v L) (hB : B ≤ w.heap.size) (hl : L.length ≤ 4096) (x : Int) :
    ∃ v' w', (∀ ty, (Builtin.append_ #[29, 29] ty #[v, .slice (some ⟨w.heap.size, 0, none⟩) 1 1]).run Try.prog (w.alloc (.cells #[.int .i64 x] 3)) = .ok v' w') ∧ RowOwn fatT w' B v' (L ++ [x]) ∧ Below B w w' := by
  have b1 : Below w.heap.size w (w.alloc (.cells #[.int .i64 x] 3)) := rbelow_one _ _
  obtain ⟨v', w', hr, O', gr, _⟩ := append_row fatOk B fatT.sl _ v L (O.more b1) (some ⟨w.heap.size, 0, none⟩) 1 [x] (rowOf_one fatOk (Blk.new w _ _) rfl) (by show (L.length + 1) * 8 ≤ _; omega) (by show L.length + 1 ≤ _; unfold maxLen; omega) (by simp; omega)
  exact ⟨v', w', fun ty => hr, O', Below.grown (b1.mono hB) gr (by simp; omega) fun k hk => (O.within k hk).1⟩
/-- New numbers. -/
def NewI (L : List Int) (v : Value) (w : World) : Prop := ∃ p cap, v = .slice p L.length cap ∧ L.length ≤ cap ∧ cap ≤ maxLen ∧ RowOf fatT w p L
theorem NewI.stable (L : List Int) (v : Value) : Stable (NewI L v) := fun w w' ⟨p, c, e, h1, h2, R⟩ hb => ⟨p, c, e, h1, h2, RowOf.more R hb⟩
/-- As the law's loop goes. -/
def RunsAt (wa : World) (b rx i : Nat) (W : World) : Prop := ∃ m K r J, Two wa.heap.size W b rx m K r J ∧ Sim m r ∧ m.few i ∧ Below wa.heap.size wa W

set_option maxRecDepth 100000 in
set_option maxHeartbeats 8000000 in
theorem diskRuns (s : Int) (hs0 : 0 ≤ s) (hs1 : s ≤ 255) (Ls : List OpS) (lp : Option Addr) (lc : Nat) (h1 : Ls.length ≤ lc) (h2 : lc ≤ maxLen) (w : World) (HR : RowOf opT w lp Ls) (HO : ∀ o ∈ Ls, o.ok w) :
    Calls Try.prog 3 #[.int .u8 s, .slice lp Ls.length lc] w fun e w' => e = .returned (.bool true) ∧ Below w.heap.size w w' := by
  have KA := hid (fun w => alive14 w)
  have hq : Int.tmod s 12 = s % 12 := Int.tmod_eq_emod_of_nonneg hs0
  obtain ⟨q, hq2⟩ : ∃ q, q = s % 12 := ⟨_, rfl⟩
  rw [← hq2] at hq
  have hq0 : 0 ≤ q ∧ q < 12 := by omega
  have hqw : wrap64 q = q := IntWalk.wrap64_in _ ⟨by omega, by omega⟩
  have hsw : wrap64 s = s := IntWalk.wrap64_in _ ⟨by omega, by omega⟩
  have KN := hid (fun w => dnew_any q w)
  have KR := hid (fun w => rnew_any q w)
  have hnl : (Ls.length : Int) ≤ 9223372036854775807 := by unfold maxLen at h2; omega
  have HRh := hid HR
  have HOh := hid HO
  clear hq2 hs0 hs1 HR HO h1 h2
  go_enter Try.func3, Try.ntmps3
  go_wp2_with fail
  refine (KA.out _).mono ?_
  rintro e w0 ⟨rfl, hb0⟩
  have E0 := hid hb0
  clear hb0 KA
  go_wp2_with fail
  refine (KN.out _).mono ?_
  rintro e w1 ⟨L, rfl, D1, N1, hb1⟩
  have E1 := hid (below2 E0.out hb1 E0.out.size)
  have D1h := hid D1
  have N1h := hid N1
  have hs0 := hid E0.out.size
  generalize hN : sectorsN q = N at *
  generalize hb : w0.heap.size + 3 = b at *
  clear hb1 KN D1 N1 hb
  go_wp2_with fail
  refine (KR.out _).mono ?_
  rintro e w2 ⟨p0, c0, L2, p2, c2, rfl, hL2, hZ2, R2, hb2⟩
  have R2h := hid R2
  have h2h := hid (And.intro hL2 (And.intro hZ2 hb2))
  clear hL2 hZ2 R2 hb2 KR
  go_wp2_with fail
  have E2 := E1.out
  have hsN := hid (show N ≤ 4096 from by rw [← hN]; unfold sectorsN; omega)
  have H0 : RunsAt w b w2.heap.size 0 (w2.alloc (.cells (RM.cells (newR p0 c0 L2 p2 c2 (List.replicate N false))).toArray 31)) := by
    have hb2 := h2h.out.2.2
    have b3 : Below w2.heap.size w2 (w2.alloc (.cells (RM.cells (newR p0 c0 L2 p2 c2 (List.replicate N false))).toArray 31)) := rbelow_one _ _
    refine ⟨_, _, _, _, ⟨(D1h.out.more hb2).more b3, Blk.new w2 _ _, R2h.out.more b3, fun k hk => Nat.le_trans E0.out.size hk.1, Nat.le_trans E2.size hb2.size, fun k hk hj => hj.elim id (fun x => by omega), fun hk => by have := hk.2; have := hb2.size; omega, fun hj => hj.elim id (fun x => by omega)⟩,
      sim_new _ N L N1h.out p0 c0 L2 p2 c2 h2h.out.1 h2h.out.2.1, ⟨by rw [N1h.out.n]; exact Nat.le_refl _, by rw [N1h.out.n', N1h.out.Q]; exact Nat.le_refl _⟩, below2 (below2 E2 hb2 E2.size) b3 (Nat.le_trans E2.size hb2.size)⟩
  replace H0 := hid H0
  clear D1h N1h R2h h2h E0 E1 E2 hs0 hsN
  generalize w2.heap.size = rx at *
  go_loopw [7] (fun i wr => ∃ k : Nat, k ≤ Ls.length ∧ k ≤ 40 ∧ i = .int .i64 (k : Int) ∧ RunsAt w b rx k wr) (fun i _ => 41 - (intOf i).toNat)
  case atStart => exact ⟨0, Nat.zero_le _, Nat.zero_le _, rfl, H0.out⟩
  case round =>
    obtain ⟨k, hk, hk40, rfl, m, K, r, J, T, S, hf, hb⟩ := hrel
    clear H0
    by_cases hlt : k < Ls.length ∧ k < 40
    · have hlt1 : (k : Int) < (Ls.length : Int) := by omega
      have hlt2 : (k : Int) < 40 := by omega
      obtain ⟨bo, oo, hoo, ro⟩ := RowP.row (RowOf.more HRh.out hb) (by omega)
      have z0 : wr.cell? ⟨bo, oo + k * 5, none⟩ = some (.int .i64 (atR opT Ls k).kd) := ro.at0 hlt.1 rfl
      have z1 : wr.cell? ⟨bo, oo + k * 5 + 1, none⟩ = some (.int .i64 (atR opT Ls k).z) := ro.at1 hlt.1 rfl
      have z2 : wr.cell? ⟨bo, oo + k * 5 + 2, none⟩ = some (.int .u8 (atR opT Ls k).n) := ro.cell k hlt.1 2 _ rfl
      have z3 : wr.cell? ⟨bo, oo + k * 5 + 3, none⟩ = some (.slice (atR opT Ls k).x.a (atR opT Ls k).x.l.length (atR opT Ls k).x.cap) := ro.cell k hlt.1 3 _ rfl
      have z4 : wr.cell? ⟨bo, oo + k * 5 + 4, none⟩ = some (.slice (atR opT Ls k).fp (atR opT Ls k).F.length (atR opT Ls k).fc) := ro.cell k hlt.1 4 _ rfl
      have hok := HOh.out _ (atR_mem (T := opT) Ls k hlt.1)
      generalize atR opT Ls k = o at *
      have KS := hid (show Calls Try.prog 10 #[.pointer (some ⟨b, 0, none⟩), .pointer (some ⟨rx, 0, none⟩), .agg #[.int .i64 o.kd, .int .i64 o.z, .int .u8 o.n, .slice o.x.a o.x.l.length o.x.cap, .slice o.fp o.F.length o.fc]] wr fun e w' => e = .returned (.bool true) ∧ StepW w.heap.size wr b rx k w' from step_any w wr hb b rx m K r J T S k hf (by omega) o hok)
      have hbh := hid hb
      have hlth := hid hlt
      subst hoo
      clear ro T S hf hb hok
      go_wp2_with fail
      refine KS.out.mono ?_
      rintro e w3 ⟨rfl, m', K', r', J', T', S', hf', hb'⟩
      have Th := hid T'
      have Sh := hid S'
      have fh := hid hf'
      have h3 := hid (hbh.out.trans hb')
      have hlO := hid (show r'.O.length ≤ 4096 from by have := T'.R.lO; have := T'.R.lL; omega)
      have O0 := hid (show RowOwn fatT w3 w3.heap.size (.slice none 0 0) (oddN 0 fun k => r'.O.getD k false) from RowOwn.nil _ _)
      clear T' S' hf' hb' KS z0 z1 z2 z3 z4 hbh
      go_wp2_with fail
      go_loopw [8, 9] (fun v i wq => ∃ j : Nat, j ≤ r'.O.length ∧ i = .int .i64 (j : Int) ∧ RowOwn fatT wq w3.heap.size v (oddN j fun k => r'.O.getD k false) ∧ Below w3.heap.size w3 wq) (fun _ i _ => r'.O.length - (intOf i).toNat)
      case atStart => exact ⟨0, Nat.zero_le _, rfl, O0.out, Below.refl _ _⟩
      case round =>
        obtain ⟨j, hj, rfl, Ov, hbq⟩ := hrel
        clear O0
        have Tq := Th.out.more hbq
        have Pq := Tq.P
        simp only [RM.cells, rdv] at Pq
        have hlO' := hlO.out
        have hjw : (r'.O.length : Int) ≤ 4096 := by omega
        by_cases hjl : j < r'.O.length
        · have hjl' : (j : Int) < (r'.O.length : Int) := by omega
          obtain ⟨b2, o2, hq2, rq⟩ := RowP.row (show RowOf blT wr r'.p2 r'.O from Tq.R.O) (by omega)
          have zb : wr.cell? ⟨b2, o2 + j, none⟩ = some (.bool (r'.O.getD j false)) := by
            have := rq.at0 hjl (v := .bool (r'.O.getD j false)) (by show some (Value.bool (atR blT r'.O j)) = _; rw [List.getD_eq_getElem?_getD]; rfl)
            simpa [blT] using this
          have hsucc := hid (oddN_succ j fun k => r'.O.getD k false)
          have hjh := hid hjl
          rw [hq2] at Pq
          cases hbit : r'.O.getD j false with
          | true =>
            have Ovh := hid Ov
            obtain ⟨v', w', hr, O', b'⟩ := odd_grow Ov hbq.size (by have := oddN_len j (fun k => r'.O.getD k false); omega) (j : Int)
            have E := hid (show RowOwn fatT w' w3.heap.size v' (oddN (j + 1) fun k => r'.O.getD k false) ∧ Below w3.heap.size w3 w' from ⟨by rw [hsucc.out]; simp only [hbit, if_true]; exact O', hbq.trans b'⟩)
            have hrh := hid hr
            rw [hbit] at zb
            clear Ov Tq hbq rq O' b' hr hbit
            obtain ⟨l0, m0, f0⟩ := Pq
            go_wp2_with (at_builtin; refine Lib.wpList_append_run _ rfl _ _ _ _ rfl _ _ rfl rfl _ _ (hrh.out _) ?_)
            go_roundw
            case rel => exact ⟨j + 1, by have := hjh.out; omega, by simp, E.out.1, E.out.2⟩
            case measure => have := hjh.out; simp [intOf]; omega
          | false =>
            have E := hid (show RowOwn fatT wr w3.heap.size _ (oddN (j + 1) fun k => r'.O.getD k false) ∧ Below w3.heap.size w3 wr from ⟨by rw [hsucc.out]; simp only [hbit, Bool.false_eq_true, if_false]; exact Ov, hbq⟩)
            rw [hbit] at zb
            clear Ov Tq hbq rq hbit
            obtain ⟨l0, m0, f0⟩ := Pq
            go_wp2_with fail
            go_roundw
            case rel => exact ⟨j + 1, by have := hjh.out; omega, by simp, E.out.1, E.out.2⟩
            case measure => have := hjh.out; simp [intOf]; omega
        · obtain rfl : j = r'.O.length := by omega
          have hjl' : ¬ ((r'.O.length : Int) < (r'.O.length : Int)) := by omega
          obtain ⟨pv, cv, rfl, hc1, hc2, Rv⟩ := Ov.open fatOk
          have Tqh := hid Tq
          have E := hid (fun W (hbW : Below wr.heap.size wr W) => show RunsAt w b rx (k + 1) W from ⟨m', K', r', J', Tq.more hbW, Sh.out, fh.out, h3.out.trans ((hbq.trans (hbW.mono hbq.size)).mono h3.out.size)⟩)
          have Rvh := hid Rv
          have hch := hid (And.intro hc1 hc2)
          have Pqh := hid Pq
          obtain ⟨l0, m0, f0⟩ := Pq
          have hn1 := hid (show m'.n' ≤ 1000000 from by have := fh.out.2; have := hlth.out; omega)
          have hOd := hid (fun z (hz : (Lit.int .i64 z).wf = true) => show Maps.has m'.DO (.int .i64 z) = (decide (0 ≤ z ∧ z < (r'.O.length : Int)) && (fun k => r'.O.getD k false) z.toNat) from Sh.out.S.O z hz)
          have KO := hid (fun W (hbW : Below wr.heap.size wr W) => show Calls Try.prog 12 #[.pointer (some ⟨b, 0, none⟩)] W fun e w' => ∃ v, e = .returned v ∧ Below W.heap.size W w' ∧ NewI (oddN r'.O.length fun k => r'.O.getD k false) v w' from
            (odd_any m' b K' W (Tqh.out.more hbW).D hn1.out r'.O.length hlO' (fun k => r'.O.getD k false) hOd.out).mono fun e w' ⟨v, he, hO, _, hbb⟩ => by
              obtain ⟨p9, c9, rfl, h9, h9', R9⟩ := hO.open fatOk
              exact ⟨_, he, hbb, p9, c9, rfl, h9, h9', R9⟩)
          have KW := hid (fun W (hbW : Below wr.heap.size wr W) => show Calls Try.prog 13 #[.pointer (some ⟨b, 0, none⟩)] W fun e w' => e = .returned (.int .i64 (r'.Q.length : Int)) ∧ w' = W from by
            have := waits_any m' b W (Tqh.out.more hbW).D.blk
            rw [Sh.out.qlen] at this
            exact this)
          have KC := hid (fun W (hbW : Below wr.heap.size wr W) => show Calls Try.prog 14 #[.pointer (some ⟨b, 0, none⟩)] W fun e w' => e = .returned (.int .i64 (r'.L.length : Int)) ∧ w' = W from by
            have := dcount_any m' b W (Tqh.out.more hbW).D.blk
            rw [Sh.out.len] at this
            exact this)
          clear Ov Tq hbq Rv hc1 hc2 hjl hOd hn1
          generalize (oddN r'.O.length fun k => r'.O.getD k false) = OL at *
          have KI := hid (fun W (hbW : Below wr.heap.size wr W) p1 c1 (hN : NewI OL (.slice p1 OL.length c1) W) => show Calls Try.prog 11 #[.slice p1 OL.length c1, .slice pv OL.length cv] W fun e w' => e = .returned (.bool true) ∧ Below W.heap.size W w' from by
            obtain ⟨p9, c9, e9, h9, h9', R9⟩ := hN
            simp only [Value.slice.injEq] at e9
            obtain ⟨rfl, _, rfl⟩ := e9
            exact plainInts_same p1 pv OL.length c1 cv (fun i => atR fatT OL i) h9 h9' hch.out.1 hch.out.2 W R9 (RowOf.more Rvh.out hbW))
          clear Rvh hch Tqh
          go_wp2_with fail
          clear l0 m0 f0
          refine wp_region_order [([0, 2], 1)] [3, 4, 5, 6, 7, 8, 9, 10, 11, 12, 13, 14, 15, 16, 17, 18] 19 (by kernel_rfl) (by kernel_rfl) (by kernel_rfl) ?_
          refine order_call ?A1 ?walk1 _ 12 #[.pointer (some ⟨b, 0, none⟩)] (NewI OL) (NewI.stable _) (by rfl) (by rfl) ?want1 ?run1 ?call1 ?next1
          case walk1 =>
            intro S hS hSS hN
            simp only [List.filterMap_cons, List.filterMap_nil, List.getElem?_toArray, List.getElem?_cons_succ, List.getElem?_cons_zero]
            change wpQuiet _ _ _ _ [_, _] _
            iterate 2 (go_big_quiet_step (fail))
            refine wpQuiet_nil ?_
            rfl
          case want1 => kernel_rfl
          case run1 => intro w2; simp [execOp, Act.eval, go_sem]
          case call1 => exact fun u => KO.out _ u.h
          case next1 =>
            intro v hN1
            obtain ⟨p1, c1, rfl, _⟩ := (Classical.choice hN1).s.2
            simp only [Act.put, Option.bind_some, List.setIfInBounds_toArray, List.set_cons_zero, List.set_cons_succ]
            refine order_last ?A3 ?walk3 ?fin
            case walk3 =>
              intro S hS hSS hN
              have q1 := fun u : LaterC wr S => LaterC.blk Pqh.out u
              have ki := hid (fun u : LaterC wr S => KI.out u.val u.h p1 c1 (hSS _ u.s).2)
              simp only [List.filterMap_cons, List.filterMap_nil, List.getElem?_toArray, List.getElem?_cons_succ, List.getElem?_cons_zero]
              change wpQuiet _ _ _ _ [_, _, _, _, _, _, _, _, _, _, _, _, _, _, _, _] _
              iterate 16 (go_big_quiet_step (first
                | (go_at_call 11; with_reducible exact latec_call hS (ki.out _))
                | (go_at_call 13; with_reducible exact latec_same (KW.out _ (LaterC.h _)))
                | (go_at_call 14; with_reducible exact latec_same (KC.out _ (LaterC.h _)))))
              refine wpQuiet_nil ?_
              rfl
            case fin =>
              intro u
              have h7 := u.h
              generalize u.val = w7 at *
              clear KO KW KC KI
              go_wp2_with fail
              go_roundw
              case rel => exact ⟨k + 1, by have := hlth.out; omega, by have := hlth.out; omega, by simp, E.out _ h7⟩
              case measure => have := hlth.out; simp [intOf]; omega
    · have E := hid hb
      have hlt' : ¬ (k : Int) < (Ls.length : Int) ∨ ¬ (k : Int) < 40 := by omega
      clear T S hf hb
      by_cases hk1 : (k : Int) < (Ls.length : Int)
      · have hk2 : ¬ (k : Int) < 40 := by omega
        go_wp2_with fail
        go_ret
        exact ⟨rfl, E.out⟩
      · go_wp2_with fail
        go_ret
        exact ⟨rfl, E.out⟩
end Go.Proofs.Ytpgibngohbohdaa

namespace Go.Proofs.Ytpgibngohbohdaa
open Go.ChangeShapes Go.WideShapes Go.ChangeAt Go.RowKit
set_option linter.unusedVariables false
set_option maxRecDepth 100000

theorem diskRuns_lifted (os : Os) (started : os.Started) (H : Type) (enc : TypeId × Value → H) :
    ReturnsInHanded {} Try.checked os 3 .any (Rows.diskRunsSpec.pre6 enc Try.prog Try.f3 [] false) (Rows.diskRunsSpec.post enc Try.prog Try.f3 false true false false) :=
  lift_sized (C := Try.checked) (s := Rows.diskRunsSpec) own (by kernel_rfl) Try.func3 laidOut rfl rfl Try.underlying4 (by kernel_rfl)
    (fun H ds hd => by match ds, hd with | [d1, d2], _ => rfl) os started H enc
    (ChangeSpec.witness6 (enc := enc) (C := Try.checked) false ⟨#[], #[.int .u8 0, .slice none 0 0], []⟩ 8 (by kernel_rfl) (by kernel_rfl) (by kernel_rfl) (by kernel_rfl))
    (fun W base args ds ps hval0 hA0 hsz0 => by
      have hval : ∀ (j : Nat) t v, Try.f3.params[j]? = some t → args[j]? = some v → Value.okWide Try.prog W .any base t v := hval0
      have hA : DataW.TrodAll enc Try.prog W 0 (fun _ => true) true Try.f3.params.toList args.toList ds ps := hA0
      have hsz : (DataW.weightsEach Try.prog (Try.f3.params.toList ++ Rows.diskRunsSpec.plain.varTypes Try.prog) (ds ++ [])).all (· ≤ reachBytes) = true := hsz0
      rw [Try.params3] at hA hval hsz
      obtain ⟨v0, s0, d0, e0, p0, q0, g0, rfl, h0, r0⟩ := args_consd hA
      obtain ⟨v1, s1, d1, e1, p1, q1, rfl, rfl, h1, r1⟩ := args_consd r0
      obtain ⟨rfl, rfl, _⟩ := trodAll_nil r1
      obtain rfl : args = #[v0, v1] := by cases args; simp_all
      obtain ⟨a, rfl, _, _, wa⟩ := open_int Try.underlying5 (hval 0 5 v0 rfl rfl) h0
      have ba := bounds_u8 wa
      obtain ⟨L, lp, lcap, rfl, l1, l2, RL, OL⟩ := opl_of (hval 1 22 v1 rfl rfl) h1 hsz (j := 1) rfl rfl
      exact diskRuns a ba.1 ba.2 L lp lcap l1 l2 W RL OL)

theorem diskRuns_holds : Rows.DiskRunsSaid :=
  OpenClaim.holds_of_wide 3 Try.f3 rfl rfl rfl rfl rfl rfl rfl ⟨rfl, rfl, rfl, rfl, rfl⟩ rfl rfl rfl rfl rfl (by kernel_rfl) Try.func3 (by kernel_rfl)
    (of_decide_eq_true (by kernel_rfl)) (by unfold Func.isWrapper; rw [if_neg (of_decide_eq_false (by kernel_rfl))]; exact ⟨rfl, rfl⟩)
    (fun os started H enc _ => diskRuns_lifted os started H enc)
#print axioms diskRuns_holds
end Go.Proofs.Ytpgibngohbohdaa
