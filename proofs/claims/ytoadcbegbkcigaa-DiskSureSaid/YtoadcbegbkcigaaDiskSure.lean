/-
  Layer 14: what is sure lasts.
-/
import Derived.Test.YtoadcbegbkcigaaDiskSureTail
namespace Go.Proofs.Ytoadcbegbkcigaa
open Go.RowKit Go.Maps
set_option linter.unusedVariables false
set_option linter.unusedSimpArgs false

set_option maxRecDepth 100000 in
set_option maxHeartbeats 8000000 in
theorem diskSure (a c : Int) (ha : 0 ≤ a) (ha' : a ≤ 255) (hc : 0 ≤ c) (hc' : c ≤ 255) (pf : Option Addr) (cf : Nat) (Fs : List Int) (hl : Fs.length ≤ 17592186044416) (hFw : ∀ f ∈ Fs, f ≤ 9223372036854775807) (pm : Option Addr) (nm cm : Nat) (w : World) (RF : RowOf fatT w pf Fs) :
    Calls Try.prog 4 #[.int .u8 a, .int .u8 c, .slice pf Fs.length cf, .slice pm nm cm] w fun e w' => e = .returned (.bool true) ∧ Below w.heap.size w w' := by
  have KA := hid (fun w => alive14 w)
  have KN := hid (fun w => new_any 4 w)
  have KFa := hid (fun w => full_any a ha ha' w)
  have KFb := hid (fun w => full_any c hc hc' w)
  have RFh := hid RF
  have hlh := hid hl
  have hFwh := hid hFw
  clear ha ha' hc hc' RF hl hFw
  generalize hnf : Fs.length = nf at *
  replace hnf := hid hnf
  go_enter Try.func4, Try.ntmps4
  go_wp2_with fail
  refine (KA.out _).mono ?_
  rintro e w0 ⟨rfl, hb0⟩
  have E0 := hid hb0
  clear hb0 KA
  go_wp2_with fail
  refine (KN.out _).mono ?_
  rintro e w1 ⟨L, rfl, D1, N1, hb1⟩
  rw [show sectorsN 4 = 4 from rfl] at D1 N1
  have E1 := hid (below2 E0.out hb1 E0.out.size)
  have D1h := hid D1
  have N1h := hid N1
  have hs0 := hid E0.out.size
  generalize hb : w0.heap.size + 3 = b at *
  clear hb1 KN D1 N1 hb
  go_wp2_with fail
  refine (KFa.out _).mono ?_
  rintro e w2 ⟨xa, rfl, hxl, hxt, hxa, hb2⟩
  have E2 := hid (below2 E1.out hb2 E1.out.size)
  have D2 := D1h.out.more hb2
  have KW := hid (write_any (G := fun _ _ w1 w' => w' = w1) (newM w0.heap.size 4 L) b 1 _ _ D2 xa hxt (fun b' o e hk => by rw [hxa] at e; cases e; omega) (by rw [hxl, fullL_len]) (by decide) (by omega)
    (by rw [N1h.out.S]; omega) rfl (by rw [N1h.out.n]; omega) (by rw [N1h.out.Q]; exact Nat.zero_le _) (fun y q c w1 K1 Dx => goz_off _ _ _ Dx.blk rfl))
  have hxlh := hid hxl
  clear hb2 D2 hxt hxa hxl D1h
  go_wp2_with fail
  refine KW.out.mono ?_
  rintro e w3 ⟨rfl, y1, q1, c1, w3', K1, hy1, D3, S3, hK1, hw3⟩
  rw [hw3]
  clear hw3 w3 KW
  have hKb1 := hid (fun k (hk : K1 k) => show w.heap.size ≤ k from by have := hs0.out; rcases hK1 k hk with r | r; exact Nat.le_trans hs0.out r.1; exact Nat.le_trans E2.out.size r)
  have E3 := hid (E2.out.trans (S3.below (B := w.heap.size) E2.out.size (fun k hk => Nat.le_trans hs0.out hk.1)))
  have KFl := hid (flush_any (G := fun _ _ w1 w' => w' = w1) ((newM w0.heap.size 4 L).after.wrote 1 y1 q1 c1).counted b K1 w3' D3 rfl (by show 0 + 1 < 1000000; omega) (by show 1 ≤ 1000000; omega) (fun L DO n' w1 K1 Dx => goz_off _ _ _ Dx.blk rfl))
  clear D3 S3 hK1
  go_wp2_with fail
  refine KFl.out.mono ?_
  rintro e w4 ⟨rfl, L3, DO3, n3, w4', K3, D4, hL3, hS3, hO3, hn3, S4, hK3, hw4⟩
  rw [hw4]
  clear hw4 w4 KFl hO3
  have hKb3 := hid (fun k (hk : K3 k) => show w.heap.size ≤ k from by rcases hK3 k hk with r | r; exact hKb1.out k r; exact Nat.le_trans E3.out.size r)
  have E4 := hid (E3.out.trans (S4.below (B := w.heap.size) E3.out.size hKb1.out))
  have hL3n := hid (show L3.length = 4 from hL3.trans N1h.out.S)
  have hS31 : Hid ((L3.map OcS.l)[1]? = some (fullL a)) := hid (by
    rw [hS3]
    show (stepD _ 1 y1.l 1).1[1]? = _
    unfold stepD
    rw [if_pos (by omega)]
    show (List.set (L.map OcS.l) 1 (nowL 1 y1.l _))[1]? = _
    rw [List.getElem?_set_self (by rw [List.length_map]; have : L.length = 4 := N1h.out.S; omega)]
    unfold nowL
    rw [if_neg (by omega), hy1, hxlh.out])
  have D4h := hid D4
  have hn3h := hid hn3
  clear D4 hL3 hS3 S4 hK3 hn3 N1h hy1 hxlh
  go_wp2_with fail
  refine (KFb.out _).mono ?_
  rintro e w5 ⟨xb, rfl, hxl, hxt, hxa, hb5⟩
  have E5 := hid (below2 E4.out hb5 E4.out.size)
  have D5 := D4h.out.more hb5
  have KW2 := hid (write_any (G := fun _ _ w1 w' => w' = w1) _ b 2 _ _ D5 xb hxt (fun b' o e hk => by rw [hxa] at e; cases e; have := D4h.out.klt _ hk; omega) (by rw [hxl, fullL_len]) (by decide) (by omega)
    (by show (2 : Int) < (L3.length : Int); rw [hL3n.out]; omega) rfl (by show 0 < 1000000; omega) (Nat.zero_le _) (fun y q c w1 K1 Dx => goz_off _ _ _ Dx.blk rfl))
  clear hb5 D5 hxt hxa hxl D4h
  go_wp2_with fail
  refine KW2.out.mono ?_
  rintro e w6 ⟨rfl, y2, q2, c2, w6', K6, hy2, D6, S6, hK6, hw6⟩
  rw [hw6]
  clear hw6 w6 KW2 hy2
  have hKb6 := hid (fun k (hk : K6 k) => show w.heap.size ≤ k from by rcases hK6 k hk with r | r; exact hKb3.out k r; exact Nat.le_trans E5.out.size r)
  have E6 := hid (E5.out.trans (S6.below (B := w.heap.size) E5.out.size hKb3.out))
  have D6h := hid D6
  clear D6 S6 hK6
  go_wp2_with fail
  refine (KFb.out _).mono ?_
  rintro e w7 ⟨xc, rfl, hxl, hxt, hxa, hb7⟩
  have E7 := hid (below2 E6.out hb7 E6.out.size)
  have D7 := D6h.out.more hb7
  have KW3 := hid (write_any (G := fun _ _ w1 w' => w' = w1) _ b 3 _ _ D7 xc hxt (fun b' o e hk => by rw [hxa] at e; cases e; have := D6h.out.klt _ hk; omega) (by rw [hxl, fullL_len]) (by decide) (by omega)
    (by show (3 : Int) < (L3.length : Int); rw [hL3n.out]; omega) rfl (by show 0 + 1 < 1000000; omega) (by show 0 + 1 ≤ 1000000; omega) (fun y q c w1 K1 Dx => goz_off _ _ _ Dx.blk rfl))
  clear hb7 D7 hxt hxa hxl D6h
  go_wp2_with fail
  refine KW3.out.mono ?_
  rintro e w8 ⟨rfl, y3, q3, c3, w8', K8, hy3, D8, S8, hK8, hw8⟩
  rw [hw8]
  clear hw8 w8 KW3 hy3
  have hKb8 := hid (fun k (hk : K8 k) => show w.heap.size ≤ k from by rcases hK8 k hk with r | r; exact hKb6.out k r; exact Nat.le_trans E7.out.size r)
  have E8 := hid (E7.out.trans (S8.below (B := w.heap.size) E7.out.size hKb6.out))
  have D8h := hid D8
  clear D8 S8 hK8
  have KCut := cut_on (G := fun K1 m1 w1 w' => ∃ L DO n' K', DiskM w' b (m1.moved L DO n').clean.gone K' ∧ Settled w1 w' b m1 K1 m1.Fs (min m1.Qs.length m1.Fs.length) L DO n' K' ∧ Sole K1 w1 w') _ b K8 w8' D8h.out rfl 0 (by decide) pf cf Fs (by rw [hnf.out]; exact hlh.out) (RowOf.more RFh.out (by have := E8.out; exact ⟨this.os, this.tape, this.output, this.size, this.block⟩))
    (fun q c w1 K1 Dx => goz_fire _ b K1 w1 Dx rfl (Int.le_refl _) hFwh.out (by show n3 + 2 < 1000000; have : n3 ≤ 0 + 1 := hn3h.out; omega))
  rw [hnf.out] at KCut
  replace KCut := hid KCut
  go_wp2_with fail
  refine KCut.out.mono ?_
  rintro e w9 ⟨rfl, q9, c9, w9', K9, D9, S9, hK9, L9, DO9, n9, K10, D10, ST, S10⟩
  have hKb9 := hid (fun k (hk : K9 k) => show w.heap.size ≤ k from by rcases hK9 k hk with r | r; exact hKb8.out k r; exact Nat.le_trans E8.out.size r)
  have E9a := E8.out.trans (S9.below (B := w.heap.size) E8.out.size hKb8.out)
  have E9 := hid (E9a.trans (S10.below (B := w.heap.size) E9a.size hKb9.out))
  have hKb10 := hid (fun k (hk : K10 k) => show w.heap.size ≤ k from by rcases ST.K k hk with r | r; exact hKb9.out k r; exact Nat.le_trans E9a.size r)
  have hL9n := hid (show L9.length = 4 from ST.len.trans hL3n.out)
  have hL9 : Hid ((ocA L9 1).l = fullL a) := hid (by
    have h1 : (L9.map OcS.l)[1]? = some (fullL a) := by
      rw [ST.S, settleD_other _ _ 1 (Nat.min_le_left _ _) (by
        intro y hy
        have hy2 : y ∈ ([] ++ [(⟨2, y2⟩ : WtS)]) ++ [(⟨3, y3⟩ : WtS)] := hy
        simp only [List.nil_append, List.cons_append, List.mem_cons, List.not_mem_nil, or_false] at hy2
        rcases hy2 with rfl | rfl
        · show (2 : Int).toNat ≠ 1; decide
        · show (3 : Int).toNat ≠ 1; decide)]
      exact hS31.out
    have h2 : 1 < L9.length := by rw [hL9n.out]; omega
    rw [ocA_eq L9 1 h2]
    rw [List.getElem?_map, List.getElem?_eq_getElem h2] at h1
    exact Option.some.inj h1)
  have KRb := hid (read_bad _ b 1 K10 w9 D10 rfl)
  clear D9 S9 hK9 D10 ST S10 KCut D8h E9a hS31
  go_wp2_with fail
  refine KRb.out.mono ?_
  rintro e w10 ⟨rfl, D11, S11⟩
  have E10 := hid (E9.out.trans (S11.below (B := w.heap.size) E9.out.size hKb10.out))
  have KPo := hid (power_off _ b K10 w10 D11 rfl pm nm cm)
  clear D11 S11 KRb
  go_wp2_with fail
  refine KPo.out.mono ?_
  rintro e w11 ⟨rfl, D12, S12⟩
  have E11 := hid (E10.out.trans (S12.below (B := w.heap.size) E10.out.size hKb10.out))
  have KRa := hid (read_any _ b 1 (by decide) K10 w11 D12 rfl)
  clear D12 S12 KPo
  go_wp2_with fail
  refine KRa.out.mono ?_
  rintro e w12 ⟨hin, _, D13, S13⟩
  obtain ⟨v, rfl, a6, c6, hv, O6⟩ := hin ⟨by omega, by show (1 : Int) < (L9.length : Int); rw [hL9n.out]; omega⟩
  have E12 := hid (E11.out.trans (S13.below (B := w.heap.size) E11.out.size hKb10.out))
  replace hv : v = .slice a6 (fullL a).length c6 := by rw [← hL9.out]; exact hv
  replace O6 : w12.ownsRow w11.heap.size 5 1 (.slice a6 (fullL a).length c6) (fullL a).length (Lib.byteCells (fullL a)) := by rw [← hL9.out]; exact O6
  have ho6 := hid (Octs.of_own O6)
  rw [fullL_len] at hv
  subst hv
  have D13h := hid D13
  have hF13 := hid (fun (W : World) (hW : Below w12.heap.size w12 W) => (KFa.out W).mono (R' := fun e w' => ∃ q c, e = .returned (.slice q 256 c) ∧ Octs w' q (fullL a) ∧ Below W.heap.size W w') fun e w' ⟨x, he, hxl, hxt, _, hb⟩ => ⟨x.a, x.cap, he, by rw [← hxl]; exact hxt.1, hb⟩)
  have hW13 := hid (fun (W : World) (hW : Below w12.heap.size w12 W) => waits_any _ b W (D13h.out.more hW).blk)
  clear hin D13 S13 O6 KRa KFb KFa
  rename_i Ka aKa Kb aKb junk
  clear junk
  replace aKa := hid aKa
  go_wp2_with fail
  refine aKa.out _ _ ?_
  exact sureTail a b w12 a6 c6 (fullL a) (fullL_len a) ho6.out hF13.out hW13.out (fun W hW => ⟨rfl, below2 E12.out hW E12.out.size⟩)
end Go.Proofs.Ytoadcbegbkcigaa
