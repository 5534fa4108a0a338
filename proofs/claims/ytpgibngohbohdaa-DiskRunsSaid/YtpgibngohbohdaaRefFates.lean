/-
  The document's own disk: Settle's walk.
-/
import Derived.Test.YtpgibngohbohdaaRefTear
import Derived.Deep.DeepCutAuto
namespace Go.Proofs.Ytpgibngohbohdaa
open Go.RowKit Go.Maps
set_option linter.unusedVariables false
set_option linter.unusedSimpArgs false

abbrev RM.clean (m : RM) : RM := { m with p1 := none, c1 := 0, Q := [] }
/-- What the region's operations tell. -/
def tabT (bb wb : Nat) (by_ oy yc n : Nat) (p0 : Option Addr) (nL c0 i b7 o7 bo oo oc : Nat) : Nat → Option Value
  | 1 => some (.pointer (some ⟨wb, 1, none⟩))
  | 2 => some (.slice (some ⟨by_, oy, none⟩) 256 yc)
  | 3 => some (.int .i64 (n : Int))
  | 4 => some (.slice (some ⟨by_, oy, none⟩) n yc)
  | 6 => some (.pointer (some ⟨bb, 0, none⟩))
  | 7 => some (.slice p0 nL c0)
  | 8 => some (.pointer (some ⟨wb, 0, none⟩))
  | 9 => some (.int .i64 (i : Int))
  | 10 => some (.pointer (some ⟨b7, o7 + i, none⟩))
  | 11 => some (.slice (some ⟨bo, oo, none⟩) 256 oc)
  | 12 => some (.int .i64 (n : Int))
  | 13 => some (.slice (some ⟨bo, oo + n, none⟩) (256 - n) (oc - n))
  | _ => none
theorem tmod_256 (f : Int) (h : 2 ≤ f) (h2 : f ≤ 9223372036854775807) : ∃ n : Nat, n < 256 ∧ wrap64 (f - 2) = f - 2 ∧ (f - 2).tmod 256 = (n : Int) ∧ wrap64 (n : Int) = (n : Int) ∧ ((f - 2) % 256).toNat = n := by
  refine ⟨((f - 2) % 256).toNat, by omega, IntWalk.wrap64_in _ ⟨by omega, by omega⟩, ?_, IntWalk.wrap64_in _ ⟨by omega, by omega⟩, rfl⟩
  rw [Int.tmod_eq_emod_of_nonneg (by omega)]
  omega
theorem nowL_two (f : Int) (l old : List UInt8) (n : Nat) (h : 2 ≤ f) (hn : ((f - 2) % 256).toNat = n) : nowL f l old = l.take n ++ old.drop n := by
  unfold nowL
  rw [if_pos h, hn]
/-- How far Settle has come. -/
def SetAt (m : RM) (J : Nat → Prop) (w : World) (Fs : List Int) (k : Nat) (W : World) : Prop :=
  ∃ p0 c0 L p2 c2 O, Mid' w J W (m.sec p0 c0 L p2 c2 O) ∧ L.length = m.L.length ∧ (m.sec p0 c0 L p2 c2 O).sd = rset m.Q Fs m.sd k
set_option maxRecDepth 100000 in
set_option maxHeartbeats 1000000 in
theorem rsettle_any (m : RM) (J : Nat → Prop) (w : World) (R : RefM w m J) (q : Option Addr) (qc : Nat) (Fs : List Int) (RF : RowOf fatT w q Fs) (hFl : Fs.length ≤ 17592186044416) (hFw : ∀ f ∈ Fs, f ≤ 9223372036854775807) :
    Calls Try.prog 41 #[m.v, .slice q Fs.length qc] w fun e w' => ∃ p0 c0 L p2 c2 O, e = .returned (m.sec p0 c0 L p2 c2 O).clean.v ∧ L.length = m.L.length ∧ RefM w' (m.sec p0 c0 L p2 c2 O).clean (JN J w w') ∧ Below w.heap.size w w' ∧ (m.sec p0 c0 L p2 c2 O).sd = rset m.Q Fs m.sd m.Q.length := by
  have hJ := hid R.jlt
  have hQ := R.lQ
  have M0 := Mid'.start w J m R
  have H0 := hid (show SetAt m J w Fs 0 _ from ⟨m.p0, m.c0, m.L, m.p2, m.c2, m.O, M0, rfl, rfl⟩)
  obtain ⟨l1, m1, f1⟩ := M0.B
  obtain ⟨l2, m2, f2⟩ := M0.Z
  have RF0 := hid RF
  have hFwh := hid hFw
  clear R RF M0 hFw
  generalize hW0 : (w.alloc (.cells m.cells.toArray 31)).alloc (.cells rz 31) = W0 at *
  go_enter Try.func41, Try.ntmps41
  go_wp2_with fail
  go_loopw [5] (fun i wr => ∃ k : Nat, k ≤ m.Q.length ∧ i = .int .i64 (k : Int) ∧ SetAt m J w Fs k wr) (fun i _ => m.Q.length - (intOf i).toNat)
  case atStart => exact ⟨0, Nat.zero_le _, rfl, H0.out⟩
  case round =>
    obtain ⟨k, hk, rfl, ⟨p0, c0, L, p2, c2, O, M, hL, hsd⟩⟩ := hrel
    by_cases hlt : k < m.Q.length
    · have hlt' : (k : Int) < (m.Q.length : Int) := by omega
      obtain ⟨bq, oq, hqq, rq⟩ := RowP.row (show RowOf rwT wr m.p1 m.Q from M.R.Q) (by omega)
      have z0 : wr.cell? ⟨bq, oq + k * 2, none⟩ = some (.int .i64 (atR rwT m.Q k).at_) := rq.at0 hlt rfl
      have z1 : wr.cell? ⟨bq, oq + k * 2 + 1, none⟩ = some (.slice (atR rwT m.Q k).x.a (atR rwT m.Q k).x.l.length (atR rwT m.Q k).x.cap) := rq.at1 hlt rfl
      obtain ⟨i, hat, hi, hyt, hyl⟩ := RefM.wait M.R hlt
      have hsucc := hid (rset_succ m.Q Fs m.sd k)
      rw [← hsd, hat] at hsucc
      rw [hat] at z0
      have hi' := hid (show i < L.length from hi)
      have hlO := hid (show O.length = L.length from M.R.lO)
      generalize hyy : (atR rwT m.Q k).x = y at *
      have b4 : Below wr.heap.size wr (wr.alloc (.cells #[.int .i64 (i : Int), .slice y.a y.l.length y.cap] 131)) := (Below.refl _ _).alloc (Nat.le_refl _) _
      have BY := hid (Blk.new wr #[.int .i64 (i : Int), .slice y.a y.l.length y.cap] 131)
      have M4 := hid (M.more b4)
      have T4 := hid (hyt.more b4)
      have hylh := hid hyl
      have hLh := hid hL
      have PB : Blk wr w.heap.size (rdv p0 L.length c0 m.p1 m.Q.length m.c1 p2 O.length c2 m.off m.cut m.p5 m.F.length m.c5 m.fail).toArray := M.B
      rw [hqq] at PB
      have PB4 := hid (PB.more b4)
      have hRFw := hid (RowOf.more RF0.out M4.out.D)
      obtain ⟨lb, mb, fb⟩ := PB
      clear M hyt hyl hL hsd hat hyy rq b4 H0 hW0 l1 m1 f1 l2 m2 f2
      go_upto_if 25 with (fail)
      generalize wr.alloc (.cells #[.int .i64 (i : Int), .slice y.a y.l.length y.cap] 131) = W4 at *
      go_cut [7] (fun s7 wx => s7 = .int .i64 (atR fatT Fs k) ∧ wx = W4)
      case first =>
        by_cases hkf : k < Fs.length
        · obtain ⟨bf, of, hqf, rf⟩ := RowP.row hRFw.out (by omega)
          have zf : W4.cell? ⟨bf, of + k, none⟩ = some (.int .i64 (atR fatT Fs k)) := by
            have := rf.at0 hkf (v := .int .i64 (atR fatT Fs k)) rfl
            simpa [fatT] using this
          have hkf' : (k : Int) < (Fs.length : Int) := by omega
          clear rf
          subst hqf
          go_wp2_with fail
          go_meet
          case rel => exact ⟨rfl, rfl⟩
        · have hkf' : ¬ (k : Int) < (Fs.length : Int) := by omega
          have hf0 : atR fatT Fs k = 0 := by
            unfold atR
            rw [List.getElem?_eq_none (by omega)]
            rfl
          go_wp2_with fail
          go_meet
          case rel => exact ⟨by rw [hf0], rfl⟩
      case rest =>
        obtain ⟨rfl, hwc⟩ := hcut
        rw [hwc]
        clear hwc wc
        have hfw : atR fatT Fs k ≤ 9223372036854775807 := by
          by_cases hkf : k < Fs.length
          · exact hFwh.out _ (atR_mem (T := fatT) Fs k hkf)
          · have : atR fatT Fs k = 0 := by
              unfold atR
              rw [List.getElem?_eq_none (by omega)]
              rfl
            omega
        generalize hff : atR fatT Fs k = f at *
        obtain ⟨ly, my, fy⟩ := BY.out
        obtain ⟨lp, mp, fp⟩ := PB4.out
        clear hff hRFw PB4 lb mb fb z0 z1
        have hkn := hid hlt
        have hend := hid (fun (W : World) (h : ∃ p0 c0 L p2 c2 O, Mid' w J W (m.sec p0 c0 L p2 c2 O) ∧ L.length = m.L.length ∧ (m.sec p0 c0 L p2 c2 O).sd = rset m.Q Fs m.sd (k + 1)) => show ∃ k' : Nat, k' ≤ m.Q.length ∧ (Value.int .i64 ((k : Int) + 1)) = .int .i64 (k' : Int) ∧ SetAt m J w Fs k' W from ⟨k + 1, by omega, by simp, h⟩)
        by_cases h1 : f < 1
        · have h1a : (f == 1) = false := by rw [beq_eq_false_iff_ne]; omega
          have h1b : f < 2 := by omega
          have hrel := hid (hend.out W4 ⟨p0, c0, L, p2, c2, O, M4.out, hLh.out, by rw [hsucc.out, stepD_low _ _ _ _ h1]⟩)
          clear h1 hfw
          go_wp2_with fail
          go_roundw
          case rel => exact hrel.out
          case measure => have := hkn.out; simp [intOf]; omega
        · by_cases h2 : f = 1
          · subst h2
            have KP := hid (rput_any (m.sec p0 c0 L p2 c2 O) _ W4 M4.out.R i hi y T4.out hylh.out false)
            unfold RM.v RM.cells at KP
            dsimp only at KP
            rw [hqq] at KP
            go_wp2_with fail
            refine KP.out.mono ?_
            rintro e w5 ⟨q0, d0, q2, d2, y', hy', rfl, R5, hb5⟩
            have M5 := M4.out.stored hJ.out hb5 R5
            have hrel := hid (hend.out _ ⟨q0, d0, L.set i y', q2, d2, O.set i false, M5, by rw [List.length_set]; exact hLh.out, by
              rw [hsucc.out]
              exact sd_step (m.sec p0 c0 L p2 c2 O) q0 d0 q2 d2 i (by show i < O.length; rw [hlO.out]; exact hi'.out) y' false y.l 1 (by omega) (by rw [hy']; rfl) (by rw [hy']; unfold oddL; rw [if_pos rfl])⟩)
            simp only [setAll, RM.cells, rdv, List.length_set, Nat.zero_add, Nat.reduceAdd] at hrel
            rw [hqq] at hrel
            obtain ⟨l5, m5, f5⟩ := M4.out.B.more hb5
            clear M5 R5 hb5 KP lp mp fp ly my fy
            simp only [List.length_set]
            go_wp2_with fail
            go_roundw
            case rel => exact hrel.out
            case measure => have := hkn.out; simp [intOf]; omega
          · have h2a : (f == 1) = false := by rw [beq_eq_false_iff_ne]; omega
            have h2b : ¬ f < 2 := by omega
            have hf1 := hid (show 1 ≤ f by omega)
            obtain ⟨n, hn, hw1, hw2, hw3, hnn⟩ := tmod_256 f (Int.not_lt.1 h2b) hfw
            obtain ⟨b7, o7, hq7, r7⟩ := RowP.row (show RowOf ocT W4 p0 L from M4.out.R.L) (by have := hi'.out; omega)
            have z7 : W4.cell? ⟨b7, o7 + i, none⟩ = some (.slice (ocA L i).a (ocA L i).l.length (ocA L i).cap) := by
              have := r7.at0 hi'.out (v := .slice (ocA L i).a (ocA L i).l.length (ocA L i).cap) rfl
              simpa [ocT] using this
            have hb7 := r7.lt
            obtain ⟨hOt, hOl, _⟩ := M4.out.R.LO _ (ocA_mem L i hi'.out)
            have hgo : (m.sec p0 c0 L p2 c2 O).sd.1.getD i [] = (ocA L i).l := by
              have := hi'.out
              unfold RM.sd
              simp [ocA_eq L i this, this]
            subst hq7
            generalize ocA L i = old at *
            obtain ⟨oa, oc, ol⟩ := old
            obtain ⟨ya, yc, yl⟩ := y
            dsimp only at hOl hgo z7 BY my hylh
            obtain ⟨bo, oo, hoa, hbo, _⟩ := Octs.row hOt.1 (fun e => by have e : ol = [] := e; rw [e] at hOl; cases hOl)
            obtain ⟨byy, oy, hya, hby, _⟩ := Octs.row T4.out.1 (fun e => by have e : yl = [] := e; have := hylh.out; rw [e] at this; cases this)
            dsimp only at hoa hya
            subst hoa hya
            have hyc : 256 ≤ yc := by have := T4.out.2.1; have := hylh.out; dsimp only at *; omega
            have hoc : 256 ≤ oc := by have := hOt.2.1; dsimp only at *; omega
            have O1 := hid (show Octs W4 (some ⟨byy, oy, none⟩) (yl.take n) from Octs.take T4.out.1 n)
            have O2 := hid (show Octs W4 (some ⟨bo, oo + n, none⟩) (ol.drop n) from Octs.drop hOt.1 n)
            have hl1 : (yl.take n).length = n := by rw [List.length_take, hylh.out]; exact Nat.min_eq_left (Nat.le_of_lt hn)
            have hl2 : (ol.drop n).length = 256 - n := by rw [List.length_drop, hOl]
            have hnow : Hid (nowL f yl ol = yl.take n ++ ol.drop n) := hid (nowL_two f yl ol n (Int.not_lt.1 h2b) hnn)
            rw [hOl] at z7
            rw [hylh.out] at BY my
            have HP := hid (show Blk W4 w.heap.size (rdv (some ⟨b7, o7, none⟩) L.length c0 (some ⟨bq, oq, none⟩) m.Q.length m.c1 p2 O.length c2 m.off m.cut m.p5 m.F.length m.c5 m.fail).toArray from ⟨lp, mp, fp⟩)
            have hll : (i : Int) < (L.length : Int) := by have := hi'.out; omega
            have hOlh := hid hOl
            have hOth := hid hOt
            have hl1h := hid hl1
            have hl2h := hid hl2
            have hgoh := hid hgo
            clear r7 hOt hOl hgo hnn hw3 hbo hby
            go_wp2_with fail
            generalize hV : tabT w.heap.size wr.heap.size byy oy yc n (some ⟨b7, o7, none⟩) L.length c0 i b7 o7 bo oo oc = V
            refine wp_region_inv 15 (fun D vs wx => HT W4 (yl.take n) (ol.drop n) V D vs wx) (by kernel_rfl) (by kernel_rfl) ?h0 ?hstep ?hend
            case h0 => exact HT.nil
            case hstep =>
              intro j o hj ho D vs ax wx hDj hD hv hbase H
              have hcell := fun {b o : Nat} {v : Value} (hl : b < W4.heap.size) (hc : W4.cell? ⟨b, o, none⟩ = some v) => show wx.cell? ⟨b, o, none⟩ = some v from (H.low.cell (p := ⟨b, o, none⟩) hl).trans hc
              rcases (show j = 0 ∨ j = 1 ∨ j = 2 ∨ j = 3 ∨ j = 4 ∨ j = 5 ∨ j = 6 ∨ j = 7 ∨ j = 8 ∨ j = 9 ∨ j = 10 ∨ j = 11 ∨ j = 12 ∨ j = 13 ∨ j = 14 by clear hfw h1 h2 h2b hw1 hw2; omega) with rfl | rfl | rfl | rfl | rfl | rfl | rfl | rfl | rfl | rfl | rfl | rfl | rfl | rfl | rfl
              all_goals
                simp only [List.getElem?_cons_zero, List.getElem?_cons_succ, Option.some.injEq] at ho
                subst ho
              · exact StepOf.value _ (wanted_plain rfl _) (by simp [execOp, go_sem]) (H.made hDj (by rw [← hV]; rfl))
              · have e1 := at_base hbase 6 (by kernel_rfl) (v := .pointer (some ⟨wr.heap.size, 0, none⟩)) rfl
                exact StepOf.value (.pointer (some ⟨wr.heap.size, 1, none⟩)) (wanted_plain rfl _) (by simp [execOp, Act.eval, e1, go_sem]) (H.quiet 1 _ (by decide) (by decide) (by decide) (by rw [← hV]; rfl))
              · have e1 := at_done H.vals hv (hD 1 (by kernel_rfl)) 44 (by kernel_rfl) (v := .pointer (some ⟨wr.heap.size, 1, none⟩)) (by rw [← hV]; rfl)
                have hc := hcell ly ((my 1).trans rfl)
                exact StepOf.value (.slice (some ⟨byy, oy, none⟩) 256 yc) (wanted_plain rfl _) (by simp [execOp, Act.eval, e1, go_sem, hc]) (H.quiet 2 _ (by decide) (by decide) (by decide) (by rw [← hV]; rfl))
              · have e1 := at_base hbase 8 (by kernel_rfl) (v := .int .i64 (n : Int)) rfl
                exact StepOf.value (.int .i64 (n : Int)) (wanted_plain rfl _) (by simp [execOp, Act.eval, e1, go_sem]) (H.quiet 3 _ (by decide) (by decide) (by decide) (by rw [← hV]; rfl))
              · have e1 := at_done H.vals hv (hD 2 (by kernel_rfl)) 45 (by kernel_rfl) (v := .slice (some ⟨byy, oy, none⟩) 256 yc) (by rw [← hV]; rfl)
                have e2 := at_done H.vals hv (hD 3 (by kernel_rfl)) 46 (by kernel_rfl) (v := .int .i64 (n : Int)) (by rw [← hV]; rfl)
                exact StepOf.value (.slice (some ⟨byy, oy, none⟩) n yc) (wanted_plain rfl _) (run_slice_op 35 _ _ _ _ rfl _ (by simp only [Option.map, eval_get e1, eval_get e2]; exact slice_to _ 256 yc n (Nat.le_trans (Nat.le_of_lt hn) hyc) wx)) (H.quiet 4 _ (by decide) (by decide) (by decide) (by rw [← hV]; rfl))
              · have e1 : ax.tmps[43]?.getD undef = vs 0 := by rw [hv 0 43 (hD 0 (by kernel_rfl)) (by kernel_rfl)]; rfl
                have e2 := at_done H.vals hv (hD 4 (by kernel_rfl)) 47 (by kernel_rfl) (v := .slice (some ⟨byy, oy, none⟩) n yc) (by rw [← hV]; rfl)
                obtain ⟨v', w', hr, H'⟩ := H.five hDj (hD 0 (by kernel_rfl)) (by rw [← hV]; rfl) _ yc O1.out (by rw [hl1h.out]; exact Nat.le_trans (Nat.le_of_lt hn) (by decide))
                rw [hl1h.out] at hr
                exact StepOf.value v' (wanted_plain rfl _) (run_append_op _ _ _ rfl _ _ (eval_get e1) (eval_get e2) v' w' hr) H'
              · have e1 := at_base hbase 2 (by kernel_rfl) (v := .pointer (some ⟨w.heap.size, 0, none⟩)) rfl
                exact StepOf.value (.pointer (some ⟨w.heap.size, 0, none⟩)) (wanted_plain rfl _) (by simp [execOp, Act.eval, e1, go_sem]) (H.quiet 6 _ (by decide) (by decide) (by decide) (by rw [← hV]; rfl))
              · have e1 := at_done H.vals hv (hD 6 (by kernel_rfl)) 49 (by kernel_rfl) (v := .pointer (some ⟨w.heap.size, 0, none⟩)) (by rw [← hV]; rfl)
                have hc := hcell HP.out.lt ((HP.out.cell 0).trans rfl)
                exact StepOf.value (.slice (some ⟨b7, o7, none⟩) L.length c0) (wanted_plain rfl _) (by simp [execOp, Act.eval, e1, go_sem, hc]) (H.quiet 7 _ (by decide) (by decide) (by decide) (by rw [← hV]; rfl))
              · have e1 := at_base hbase 6 (by kernel_rfl) (v := .pointer (some ⟨wr.heap.size, 0, none⟩)) rfl
                exact StepOf.value (.pointer (some ⟨wr.heap.size, 0, none⟩)) (wanted_plain rfl _) (by simp [execOp, Act.eval, e1, go_sem]) (H.quiet 8 _ (by decide) (by decide) (by decide) (by rw [← hV]; rfl))
              · have e1 := at_done H.vals hv (hD 8 (by kernel_rfl)) 51 (by kernel_rfl) (v := .pointer (some ⟨wr.heap.size, 0, none⟩)) (by rw [← hV]; rfl)
                have hc := hcell ly ((my 0).trans rfl)
                exact StepOf.value (.int .i64 (i : Int)) (wanted_plain rfl _) (by simp [execOp, Act.eval, e1, go_sem, hc]) (H.quiet 9 _ (by decide) (by decide) (by decide) (by rw [← hV]; rfl))
              · have e1 := at_done H.vals hv (hD 7 (by kernel_rfl)) 50 (by kernel_rfl) (v := .slice (some ⟨b7, o7, none⟩) L.length c0) (by rw [← hV]; rfl)
                have e2 := at_done H.vals hv (hD 9 (by kernel_rfl)) 52 (by kernel_rfl) (v := .int .i64 (i : Int)) (by rw [← hV]; rfl)
                exact StepOf.value (.pointer (some ⟨b7, o7 + i, none⟩)) (wanted_plain rfl _) (by simp [execOp, Act.eval, e1, e2, go_sem, hi'.out]) (H.quiet 10 _ (by decide) (by decide) (by decide) (by rw [← hV]; rfl))
              · have e1 := at_done H.vals hv (hD 10 (by kernel_rfl)) 53 (by kernel_rfl) (v := .pointer (some ⟨b7, o7 + i, none⟩)) (by rw [← hV]; rfl)
                have hc := hcell hb7 z7
                exact StepOf.value (.slice (some ⟨bo, oo, none⟩) 256 oc) (wanted_plain rfl _) (by simp [execOp, Act.eval, e1, go_sem, hc]) (H.quiet 11 _ (by decide) (by decide) (by decide) (by rw [← hV]; rfl))
              · have e1 := at_base hbase 8 (by kernel_rfl) (v := .int .i64 (n : Int)) rfl
                exact StepOf.value (.int .i64 (n : Int)) (wanted_plain rfl _) (by simp [execOp, Act.eval, e1, go_sem]) (H.quiet 12 _ (by decide) (by decide) (by decide) (by rw [← hV]; rfl))
              · have e1 := at_done H.vals hv (hD 11 (by kernel_rfl)) 54 (by kernel_rfl) (v := .slice (some ⟨bo, oo, none⟩) 256 oc) (by rw [← hV]; rfl)
                have e2 := at_done H.vals hv (hD 12 (by kernel_rfl)) 55 (by kernel_rfl) (v := .int .i64 (n : Int)) (by rw [← hV]; rfl)
                exact StepOf.value (.slice (some ⟨bo, oo + n, none⟩) (256 - n) (oc - n)) (wanted_plain rfl _) (run_slice_op 35 _ _ _ _ rfl _ (by simp only [Option.map, eval_get e1, eval_get e2]; exact slice_from bo oo 256 oc n (Nat.le_of_lt hn) hoc (Nat.ne_of_gt (Nat.lt_of_lt_of_le hn hoc)) wx)) (H.quiet 13 _ (by decide) (by decide) (by decide) (by rw [← hV]; rfl))
              · have e1 : ax.tmps[48]?.getD undef = vs 5 := by rw [hv 5 48 (hD 5 (by kernel_rfl)) (by kernel_rfl)]; rfl
                have e2 := at_done H.vals hv (hD 13 (by kernel_rfl)) 56 (by kernel_rfl) (v := .slice (some ⟨bo, oo + n, none⟩) (256 - n) (oc - n)) (by rw [← hV]; rfl)
                obtain ⟨v', w', hr, H'⟩ := H.last hDj (hD 5 (by kernel_rfl)) (by rw [← hV]; rfl) _ (oc - n) O2.out (by rw [hl1h.out, hl2h.out, Nat.add_sub_of_le (Nat.le_of_lt hn)]; decide)
                rw [hl2h.out] at hr
                exact StepOf.value v' (wanted_plain rfl _) (run_append_op _ _ _ rfl _ _ (eval_get e1) (eval_get e2) v' w' hr) H'
            case hend =>
              intro D vs wx hall H
              have O14 := H.e (hall 14 (by decide))
              have hl14 : (yl.take n ++ ol.drop n).length = 256 := by rw [List.length_append, hl1h.out, hl2h.out, Nat.add_sub_of_le (Nat.le_of_lt hn)]
              rw [hl14] at O14
              obtain ⟨g, gc, cur, hv14, hg, hgc1, hgc2, BG, _, _⟩ := own_blk O14 (by decide)
              have v1 := H.vals 1 _ (hall 1 (by decide)) (by rw [← hV]; rfl)
              have v2 := H.vals 2 _ (hall 2 (by decide)) (by rw [← hV]; rfl)
              have v3 := H.vals 3 _ (hall 3 (by decide)) (by rw [← hV]; rfl)
              have v4 := H.vals 4 _ (hall 4 (by decide)) (by rw [← hV]; rfl)
              have v6 := H.vals 6 _ (hall 6 (by decide)) (by rw [← hV]; rfl)
              have v7 := H.vals 7 _ (hall 7 (by decide)) (by rw [← hV]; rfl)
              have v8 := H.vals 8 _ (hall 8 (by decide)) (by rw [← hV]; rfl)
              have v9 := H.vals 9 _ (hall 9 (by decide)) (by rw [← hV]; rfl)
              have v10 := H.vals 10 _ (hall 10 (by decide)) (by rw [← hV]; rfl)
              have v11 := H.vals 11 _ (hall 11 (by decide)) (by rw [← hV]; rfl)
              have v12 := H.vals 12 _ (hall 12 (by decide)) (by rw [← hV]; rfl)
              have v13 := H.vals 13 _ (hall 13 (by decide)) (by rw [← hV]; rfl)
              have hnew : (⟨some ⟨g, 0, none⟩, gc, yl.take n ++ ol.drop n⟩ : OcS).there wx := ⟨by
                rw [hv14, ← hl14] at O14
                exact Octs.of_own O14, by rw [hl14]; exact hgc1, hgc2⟩
              have M9 := hid (M4.out.more H.low)
              have TN := hid hnew
              have TY := hid (T4.out.more H.low)
              have TO := hid (hOth.out.more H.low)
              have hl14h := hid hl14
              have PB9 := HP.out.more H.low
              have BY9 := Blk.more (show Blk W4 wr.heap.size #[.int .i64 (i : Int), .slice (some ⟨byy, oy, none⟩) 256 yc] from ⟨ly, my, fy⟩) H.low
              have hz7 : wx.cell? ⟨b7, o7 + i, none⟩ = some (.slice (some ⟨bo, oo, none⟩) 256 oc) := (H.low.cell (p := ⟨b7, o7 + i, none⟩) hb7).trans z7
              have hb7' := Nat.lt_of_lt_of_le hb7 H.low.size
              simp only [puts, List.range, List.range.loop, List.foldl_cons, List.foldl_nil, List.getElem?_toArray, List.getElem?_cons_succ, List.getElem?_cons_zero, Option.bind_some, Act.put, List.setIfInBounds_toArray, List.set_cons_succ, List.set_cons_zero, v1, v2, v3, v4, v6, v7, v8, v9, v10, v11, v12, v13, hv14]
              simp only [List.drop_succ_cons, List.drop_zero]
              clear v1 v2 v3 v4 v6 v7 v8 v9 v10 v11 v12 v13 hv14 hall H hV O14 hnew hl14 lp mp fp ly my fy z7 hb7 HP BG
              generalize yl.take n ++ ol.drop n = now at *
              generalize vs 0 = v0 at *
              generalize vs 5 = v5 at *
              obtain ⟨lp, mp, fp⟩ := PB9
              obtain ⟨ly, my, fy⟩ := BY9
              have hcv1 := conv_octs TN.out.1 gc
              have hcv2 := conv_octs TY.out.1 yc
              have hcv3 := hid (fun W (h : Below wx.heap.size wx W) => conv_octs (TO.out.1.more h) oc)
              have hcv4 := hid (fun W (h : Below wx.heap.size wx W) => conv_octs (TN.out.1.more h) gc)
              dsimp only at hcv1 hcv2 hcv3 hcv4
              rw [hl14h.out] at hcv1 hcv4
              rw [hylh.out] at hcv2
              rw [hOlh.out] at hcv3
              by_cases e1 : now = yl
              · have htt : ((textOf now).toList == (textOf yl).toList) = true := by rw [e1]; simp
                have KP := hid (rput_any (m.sec (some ⟨b7, o7, none⟩) c0 L p2 c2 O) _ wx M9.out.R i hi'.out ⟨some ⟨g, 0, none⟩, gc, now⟩ TN.out hl14h.out false)
                unfold RM.v RM.cells at KP
                dsimp only at KP
                rw [hqq, hl14h.out] at KP
                replace e1 := hid e1
                clear hcv3 hcv4 h1 hfw h2 h2b hw1 hw2
                generalize textOf now = tn at *
                generalize textOf yl = ty at *
                go_wp2_with fail
                refine KP.out.mono ?_
                rintro e w5 ⟨q0, d0, q2, d2, y', hy', rfl, R5, hb5⟩
                have M5 := M9.out.stored hJ.out hb5 R5
                have hrel := hid (hend.out _ ⟨q0, d0, L.set i y', q2, d2, O.set i false, M5, by rw [List.length_set]; exact hLh.out, by
                  rw [hsucc.out]
                  exact sd_step (m.sec (some ⟨b7, o7, none⟩) c0 L p2 c2 O) q0 d0 q2 d2 i (by show i < O.length; rw [hlO.out]; exact hi'.out) y' false yl f hf1.out (by rw [hy', hgoh.out]; exact hnow.out.symm) (by rw [hy']; unfold oddL; rw [if_pos e1.out])⟩)
                simp only [setAll, RM.cells, rdv, List.length_set, Nat.zero_add, Nat.reduceAdd] at hrel
                rw [hqq] at hrel
                obtain ⟨l5, m5, f5⟩ := M9.out.B.more hb5
                clear M5 R5 hb5 KP lp mp fp ly my fy hcv1 hcv2 htt hz7
                simp only [List.length_set]
                go_wp2_with fail
                go_roundw
                case rel => exact hrel.out
                case measure => have := hkn.out; simp [intOf]; omega
              · have htt : ((textOf now).toList == (textOf yl).toList) = false := by
                  rw [beq_eq_false_iff_ne]
                  exact fun h => e1 (by simpa using h)
                have hno : Hid (((textOf now).toList == (textOf ol).toList) = decide (now = ol)) := hid (by
                  by_cases h : now = ol
                  · rw [h]; simp
                  · simp only [h, decide_false]
                    rw [beq_eq_false_iff_ne]
                    exact fun h' => h (by simpa using h'))
                replace e1 := hid e1
                have HPB := hid (show Blk wx w.heap.size _ from ⟨lp, mp, fp⟩)
                have HBY := hid (show Blk wx wr.heap.size _ from ⟨ly, my, fy⟩)
                clear h1 hfw h2 h2b hw1 hw2
                generalize textOf now = tn at *
                generalize textOf yl = ty at *
                generalize textOf ol = tq at *
                go_wp2_with fail
                clear hcv1 hcv2 htt
                have q0 := fun u : Later wx => u.blk HPB.out
                have q1 := fun u : Later wx => u.blk HBY.out
                have q2 := fun u : Later wx => (u.cell b7 (o7 + i) hb7').trans hz7
                have q3 := fun u : Later wx => hcv3.out u.val u.h
                have q4 := fun u : Later wx => hcv4.out u.val u.h
                refine wp_region_late 9 (by kernel_rfl) (by kernel_rfl) ?_
                simp only [List.take_succ_cons, List.take_zero, List.drop_succ_cons, List.drop_zero]
                iterate 9 (go_big_quiet_step (fail))
                refine wpQuiet_nil ?_
                intro w3 h3'
                have h3 := late_out h3'
                have M3 := hid (M9.out.more h3)
                have T3 := hid (TN.out.more h3)
                have BY3 := hid (HBY.out.more h3)
                clear h3 h3' q0 q1 q2 q3 q4 hz7 hb7' HPB HBY hcv3 hcv4 lp mp fp ly my fy
                have hnq := hno.out
                obtain ⟨lp, mp, fp⟩ := M3.out.B
                obtain ⟨ly, my, fy⟩ := BY3.out
                by_cases e2 : now = ol
                · have hnq' : (tn.toList == tq.toList) = true := by rw [hnq, e2]; simp
                  clear hnq
                  have hrel := hid (hend.out w3 ⟨_, c0, L, p2, c2, O, M3.out, hLh.out, by
                    rw [hsucc.out]
                    exact sd_same (m.sec (some ⟨b7, o7, none⟩) c0 L p2 c2 O) i hi'.out yl f hf1.out (by rw [hgoh.out, hnow.out, e2]) (by rw [hgoh.out, hnow.out]; exact e1.out)⟩)
                  replace e2 := hid e2
                  go_wp2_with fail
                  go_roundw
                  case rel => exact hrel.out
                  case measure => have := hkn.out; simp [intOf]; omega
                · have hnq' : (tn.toList == tq.toList) = false := by rw [hnq]; simp [e2]
                  clear hnq
                  have KP := hid (rput_any (m.sec (some ⟨b7, o7, none⟩) c0 L p2 c2 O) _ w3 M3.out.R i hi'.out ⟨some ⟨g, 0, none⟩, gc, now⟩ T3.out hl14h.out true)
                  unfold RM.v RM.cells at KP
                  dsimp only at KP
                  rw [hqq, hl14h.out] at KP
                  replace e2 := hid e2
                  go_wp2_with fail
                  refine KP.out.mono ?_
                  rintro e w5 ⟨q0, d0, q2, d2, y', hy', rfl, R5, hb5⟩
                  have M5 := M3.out.stored hJ.out hb5 R5
                  have hrel := hid (hend.out _ ⟨q0, d0, L.set i y', q2, d2, O.set i true, M5, by rw [List.length_set]; exact hLh.out, by
                    rw [hsucc.out]
                    exact sd_step (m.sec (some ⟨b7, o7, none⟩) c0 L p2 c2 O) q0 d0 q2 d2 i (by show i < O.length; rw [hlO.out]; exact hi'.out) y' true yl f hf1.out (by rw [hy', hgoh.out]; exact hnow.out.symm) (by rw [hy', hgoh.out]; unfold oddL; rw [if_neg e1.out, if_neg e2.out])⟩)
                  simp only [setAll, RM.cells, rdv, List.length_set, Nat.zero_add, Nat.reduceAdd] at hrel
                  rw [hqq] at hrel
                  obtain ⟨l5, m5, f5⟩ := M3.out.B.more hb5
                  clear M5 R5 hb5 KP lp mp fp ly my fy hnq'
                  simp only [List.length_set]
                  go_wp2_with fail
                  go_roundw
                  case rel => exact hrel.out
                  case measure => have := hkn.out; simp [intOf]; omega
    · obtain rfl : k = m.Q.length := by omega
      have hlt' : ¬ ((m.Q.length : Int) < (m.Q.length : Int)) := by omega
      obtain ⟨lp, mp, fp⟩ := M.B
      have B1e := M.B.set 1 (.slice none 0 0) (by simp)
      have M2 := hid M
      have hLh := hid hL
      have hsdh := hid hsd
      have W2 := hid (M.Z.other ⟨w.heap.size, 1, none⟩ (by simp) (.slice none 0 0))
      have D2 := hid (Below.setCell (p := ⟨w.heap.size, 1, none⟩) M.D (Nat.le_refl _) (.slice none 0 0))
      have hsz : (wr.setCell ⟨w.heap.size, 1, none⟩ (.slice none 0 0)).heap.size = wr.heap.size := by simp [World.setCell]
      have R2 := hid (show RefM (wr.setCell ⟨w.heap.size, 1, none⟩ (.slice none 0 0)) (m.sec p0 c0 L p2 c2 O).clean (fun j => J j ∨ (w.heap.size + 1 + 1 ≤ j ∧ j < (wr.setCell ⟨w.heap.size, 1, none⟩ (.slice none 0 0)).heap.size)) from by
        rw [hsz]
        exact RefM.clean (M.R.sole (Sole.setCell (S := fun j => j = w.heap.size) wr (b := w.heap.size) (o := 1) (.slice none 0 0) rfl) (fun j hj e => by rcases hj with h | h; (have := hJ.out j h; omega); omega)))
      clear hsz
      clear M hL hsd hlt H0 hW0 l1 m1 f1 l2 m2 f2 RF0
      simp only [RM.cells, rdv, List.setIfInBounds_toArray, List.set_cons_zero, List.set_cons_succ] at B1e
      obtain ⟨l3, m3, f3⟩ := B1e
      obtain ⟨l4, m4, f4⟩ := W2.out
      go_wp2_with fail
      have B3 := Blk.fill (rdv p0 L.length c0 none 0 0 p2 O.length c2 m.off m.cut m.p5 m.F.length m.c5 m.fail) 0 W2.out (by simp)
      have D3 := hid (below_fill (b := w.heap.size + 1) (Nat.le_succ _) (rdv p0 L.length c0 none 0 0 p2 O.length c2 m.off m.cut m.p5 m.F.length m.c5 m.fail) 0 D2.out)
      have F3 := hid (RefM.fill R2.out hJ.out (Nat.le_succ _) (rdv p0 L.length c0 none 0 0 p2 O.length c2 m.off m.cut m.p5 m.F.length m.c5 m.fail))
      simp only [setAll, Nat.zero_add, Nat.reduceAdd] at B3 D3 F3
      clear lp mp fp l3 m3 f3 l4 m4 f4 W2 D2 R2 M2
      generalize World.setCell _ _ _ = W3 at *
      obtain ⟨l9, q9, f9⟩ := B3
      refine bodyPost_ret (v := .agg (rdv p0 L.length c0 none 0 0 p2 O.length c2 m.off m.cut m.p5 m.F.length m.c5 m.fail).toArray) (by simp [results, Try.results41, go_sem, q9, fillC]) rfl ⟨p0, c0, L, p2, c2, O, rfl, hLh.out, F3.out, D3.out, hsdh.out⟩
end Go.Proofs.Ytpgibngohbohdaa
