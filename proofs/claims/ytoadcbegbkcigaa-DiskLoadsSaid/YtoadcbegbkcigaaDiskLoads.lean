/-
  Layer 14: what is loaded is read.
-/
import Derived.Test.YtoadcbegbkcigaaDiskLoad
import Derived.Test.YtoadcbegbkcigaaDiskOdd
import Derived.Deep.DeepCutAuto
import Derived.Outline
namespace Go.Proofs.Ytoadcbegbkcigaa
open Go.RowKit Go.Maps
set_option linter.unusedVariables false
set_option linter.unusedSimpArgs false

theorem stepD_odd (s : SD) (z : Int) (l : List UInt8) (f : Int) (y : Int) (h : z ≠ y) : (stepD s z l f).2 y = s.2 y := by
  unfold stepD
  split
  · show (if y = z then _ else s.2 y) = _
    rw [if_neg (fun e => h e.symm)]
  · rfl
theorem settleD_odd (Qs : List WtS) (Fs : List Int) {N : Nat} (z : Int) (hN : N ≤ Qs.length) (h : ∀ y ∈ Qs, y.at_ ≠ z) : ∀ (pre : List (Fin N)) (s : SD), (settleD Qs Fs s pre).2 z = s.2 z
  | [], s => rfl
  | j :: pre, s => by
    have ih := settleD_odd Qs Fs z hN h pre (stepD s (atR wtT Qs j.val).at_ (atR wtT Qs j.val).x.l (atR fatT Fs j.val))
    have hj := j.isLt
    show (settleD Qs Fs (stepD s (atR wtT Qs j.val).at_ (atR wtT Qs j.val).x.l (atR fatT Fs j.val)) pre).2 z = _
    rw [ih]
    exact stepD_odd s _ _ _ z (h _ (atR_mem (T := wtT) Qs j.val (by omega)))
/-- A disk that only reads change. -/
structure Still (m : DM) (L : List OcS) (DO : DataW Unit) : Prop where
  off : m.off = false
  tf : m.tf = false
  Q : m.Qs = []
  L : m.Ls = L
  O : m.DO = DO
  n : m.n' ≤ 1000000
theorem Still.trb {m : DM} {L : List OcS} {DO : DataW Unit} (h : Still m L DO) : m.trb = false := by
  unfold DM.trb
  rw [h.off, h.tf]
  rfl
theorem Still.after {m : DM} {L : List OcS} {DO : DataW Unit} (h : Still m L DO) : Still m.after L DO := by
  refine ⟨h.off, ?_, h.Q, h.L, h.O, h.n⟩
  show (if m.off then m.tf else if m.tf && decide (m.fl ≤ 0) then false else m.tf) = false
  rw [h.off, h.tf]
  rfl
theorem Still.cur {m : DM} {L : List OcS} {DO : DataW Unit} (h : Still m L DO) (k : Nat) : m.cur (k : Int) = ocA L k := by
  unfold DM.cur
  rw [h.Q, h.L]
  rfl

set_option maxRecDepth 100000 in
set_option maxHeartbeats 8000000 in
theorem diskLoads (L0 : List OcS) (p0 : Option Addr) (cap0 : Nat) (n : Int) (ha : 0 ≤ n) (ha' : n ≤ 255) (h10 : L0.length ≤ cap0) (h20 : cap0 ≤ maxLen) (w : World) (HR0 : RowOf ocT w p0 L0) (HT0 : ∀ x ∈ L0, x.there w) :
    Calls Try.prog 5 #[.slice p0 L0.length cap0, .int .u8 n] w fun e w' => e = .returned (.bool true) ∧ Below w.heap.size w w' := by
  have KA := hid (fun w => alive14 w)
  have KN := hid (fun w => new_any 6 w)
  have KFa := hid (fun w => full_any n ha ha' w)
  have hn0 : (L0.length : Int) ≤ 9223372036854775807 := by unfold maxLen at h20; omega
  clear ha ha'
  go_enter Try.func5, Try.ntmps5
  go_wp2_with fail
  refine (KA.out _).mono ?_
  rintro e w0 ⟨rfl, hb0⟩
  have E0 := hid hb0
  clear hb0 KA
  go_upto_if 14 with (fail)
  go_cut [0] (fun v wx => wx = w0 ∧ ∃ (L : List OcS) (p : Option Addr) (cap : Nat), v = .slice p L.length cap ∧ L.length ≤ 20 ∧ RowOf ocT w p L ∧ (∀ s ∈ L, s.there w))
  case first =>
    by_cases h60 : 20 < L0.length
    · have h60' : decide ((20 : Int) < (L0.length : Int)) = true := decide_eq_true (by omega)
      have hcap : (20 : Int) ≤ (cap0 : Int) := by omega
      obtain ⟨b, o, rfl, R⟩ := RowP.row HR0 (by omega)
      have HR1 := hid (RowOf.take HR0 20 (by omega))
      have hlen : (L0.take 20).length = 20 := by rw [List.length_take]; omega
      have hF := hid (show ∀ s ∈ L0.take 20, s.there w from fun s hs => HT0 s (List.mem_of_mem_take hs))
      clear R HR0 HT0
      replace hlen := hid hlen
      go_wp2_with fail
      go_meet
      case rel => exact ⟨rfl, L0.take 20, some ⟨b, o, none⟩, cap0, by rw [hlen.out], by rw [hlen.out]; omega, HR1.out, hF.out⟩
    · have h60' : decide ((20 : Int) < (L0.length : Int)) = false := decide_eq_false (by omega)
      have HRh := hid HR0
      have hF := hid HT0
      clear HR0 HT0
      go_wp2_with fail
      go_meet
      case rel => exact ⟨rfl, L0, p0, cap0, rfl, by omega, HRh.out, hF.out⟩
  case rest =>
    obtain ⟨rfl, Xs, xp, xc, rfl, h20, HR, HT⟩ := hcut
    replace HR := hid HR
    replace HT := hid HT
    replace h20 := hid h20
    clear HR0 HT0 h10 hn0
    generalize hxn : Xs.length = xn at *
    replace hxn := hid hxn
    go_wp2_with fail
    refine (KN.out _).mono ?_
    rintro e w1 ⟨L, rfl, D1, N1, hb1⟩
    rw [show sectorsN 6 = 6 from rfl] at D1 N1
    have E1 := hid (below2 E0.out hb1 E0.out.size)
    have D1h := hid D1
    have N1h := hid N1
    have hs0 := hid E0.out.size
    generalize hb : wc.heap.size + 3 = b at *
    clear hb1 KN D1 N1 hb
    go_wp2_with fail
    refine (KFa.out _).mono ?_
    rintro e w2 ⟨xa, rfl, hxl, hxt, hxa, hb2⟩
    have E2 := hid (below2 E1.out hb2 E1.out.size)
    have D2 := D1h.out.more hb2
    have KW := hid (write_any (G := fun _ _ w1 w' => w' = w1) (newM wc.heap.size 6 L) b 0 _ _ D2 xa hxt (fun b' o e hk => by rw [hxa] at e; cases e; omega) (by rw [hxl, fullL_len]) (by decide) (by omega)
      (by rw [N1h.out.S]; omega) rfl (by rw [N1h.out.n]; omega) (by rw [N1h.out.Q]; exact Nat.zero_le _) (fun y q c w1 K1 Dx => goz_off _ _ _ Dx.blk rfl))
    clear hb2 D2 hxt hxa hxl D1h
    go_wp2_with fail
    refine KW.out.mono ?_
    rintro e w3 ⟨rfl, y1, q1, c1, w3', K1, hy1, D3, S3, hK1, hw3⟩
    rw [hw3]
    clear hw3 w3 KW hy1
    have hKb1 := hid (fun k (hk : K1 k) => show w.heap.size ≤ k from by have := hs0.out; rcases hK1 k hk with r | r; exact Nat.le_trans hs0.out r.1; exact Nat.le_trans E2.out.size r)
    have E3 := hid (E2.out.trans (S3.below (B := w.heap.size) E2.out.size (fun k hk => Nat.le_trans hs0.out hk.1)))
    have hbA : Below w3'.heap.size w3' (w3'.alloc (.cells #[.int .i64 30] 3)) := (Below.refl _ _).alloc (Nat.le_refl _) _
    have BA := Blk.new w3' #[.int .i64 30] 3
    have RA : RowOf fatT (w3'.alloc (.cells #[.int .i64 30] 3)) (some ⟨w3'.heap.size, 0, none⟩) [30] := rowOf_one fatOk BA (x := (30 : Int)) rfl
    have E3a := hid (E3.out.trans (hbA.mono E3.out.size))
    have D3h := hid D3
    have D3A := D3.more hbA
    have hbK : ∀ k, ((newM wc.heap.size 6 L).after.wrote 0 y1 q1 c1).counted.base b k → k < w3'.heap.size := fun k hk => D3.klt k (D3.kk k hk)
    have KP := power_on (G := fun m2 K2 w2 => ∃ L3 DO3 n3, m2 = (((newM wc.heap.size 6 L).after.wrote 0 y1 q1 c1).counted.moved L3 DO3 n3).clean ∧ Settled (w3'.alloc (.cells #[.int .i64 30] 3)) w2 b ((newM wc.heap.size 6 L).after.wrote 0 y1 q1 c1).counted K1 [30] 1 L3 DO3 n3 K2 ∧ Sole K1 (w3'.alloc (.cells #[.int .i64 30] 3)) w2) _ b K1 _ D3A rfl (some ⟨w3'.heap.size, 0, none⟩) 1 1
      ((settle_any _ b K1 _ D3A (some ⟨w3'.heap.size, 0, none⟩) 1 [30] RA (by unfold maxLen; simp) (fun b' o e _ => by cases e; rintro (r | r); (have := hbK _ (.inr (.inr (.inr (.inl r)))); omega); (have := hbK _ (.inr (.inr (.inl r))); omega)) (fun f hf => by simp at hf; omega) (by show 0 + 1 < 1000000; omega)).mono
        fun e w2 ⟨he, L3, DO3, n3, K3, Dc, ST, Sc⟩ => ⟨he, _, K3, Dc, L3, DO3, n3, rfl, ST, Sc⟩)
    replace KP := hid KP
    clear D3 S3 hK1 D3A RA BA hbK hbA
    go_wp2_with fail
    refine KP.out.mono ?_
    rintro e w5 ⟨rfl, m2, K3, w4, D5, S5, D4, L3, DO3, n3, rfl, ST, S4⟩
    have hKb3 := hid (fun k (hk : K3 k) => show w.heap.size ≤ k from by rcases ST.K k hk with r | r; exact hKb1.out k r; exact Nat.le_trans E3a.out.size r)
    have E5 := hid ((E3a.out.trans (S4.below (B := w.heap.size) E3a.out.size hKb1.out)).trans (S5.below (B := w.heap.size) (Nat.le_trans E3a.out.size S4.size) fun k e => e ▸ hKb3.out _ (D4.kk _ (.inl rfl))))
    have hL3n := hid (show L3.length = 6 from ST.len.trans N1h.out.S)
    have hn3 := hid (show n3 ≤ 1 from ST.n)
    have hO3 := hid (fun z (hz : (Lit.int .i64 z).wf = true) (h0 : z ≠ 0) => show Maps.has DO3 (.int .i64 z) = false from by
      rw [ST.O z hz, settleD_odd _ _ z (Nat.le_refl 1) (by
        intro y hy
        have hy2 : y ∈ ([] ++ [(⟨0, y1⟩ : WtS)]) := hy
        simp only [List.nil_append, List.mem_cons, List.not_mem_nil, or_false] at hy2
        subst hy2
        exact fun e => h0 e.symm)]
      exact N1h.out.O z)
    have D5h := hid D5
    clear D5 S5 D4 ST S4 KP N1h D3h
    go_wp2_with fail
    refine (KFa.out _).mono ?_
    rintro e w6 ⟨xb, rfl, hxl, hxt, hxa, hb6⟩
    have E6 := hid (below2 E5.out hb6 E5.out.size)
    have D6 := D5h.out.more hb6
    have KW2 := hid (write_any (G := fun _ _ w1 w' => w' = w1) _ b 5 _ _ D6 xb hxt (fun b' o e hk => by rw [hxa] at e; cases e; have := D5h.out.klt _ hk; omega) (by rw [hxl, fullL_len]) (by decide) (by omega)
      (by show (5 : Int) < (L3.length : Int); rw [hL3n.out]; omega) rfl (by show 0 < 1000000; omega) (Nat.zero_le _) (fun y q c w1 K1 Dx => goz_off _ _ _ Dx.blk rfl))
    clear hb6 D6 hxt hxa hxl D5h
    go_wp2_with fail
    refine KW2.out.mono ?_
    rintro e w7 ⟨rfl, y2, q2, c2, w7', K7, hy2, D7, S7, hK7, hw7⟩
    rw [hw7]
    clear hw7 w7 KW2 hy2
    have hKb7 := hid (fun k (hk : K7 k) => show w.heap.size ≤ k from by rcases hK7 k hk with r | r; exact hKb3.out k r; exact Nat.le_trans E6.out.size r)
    have E7 := hid (E6.out.trans (S7.below (B := w.heap.size) E6.out.size hKb3.out))
    have HR7 := hid (RowOf.more HR.out (by have := E7.out; exact ⟨this.os, this.tape, this.output, this.size, this.block⟩))
    have KLo := hid (load_any _ b K7 w7' D7 xp xc Xs HR7.out (fun b' o e hne hk => by
      rcases HR.out with h0 | ⟨b2, o2, e2, R2⟩
      · exact hne h0
      · rw [e] at e2; cases e2; have := hKb7.out _ hk; have := R2.lt; omega) (fun x hx => ⟨(HT.out x hx).more (by have := E7.out; exact ⟨this.os, this.tape, this.output, this.size, this.block⟩), fun b' o e hne hk => by
      rcases (HT.out x hx).1 with h0 | ⟨b2, o2, e2, hlt, _⟩
      · exact hne h0
      · rw [e] at e2; cases e2; have := hKb7.out _ hk; omega⟩))
    rw [hxn.out] at KLo
    clear D7 S7 hK7 HR7
    go_wp2_with fail
    refine KLo.out.mono ?_
    rintro e w8 ⟨rfl, L8, DO8, LD, S8⟩
    have E8 := hid (E7.out.trans (S8.below (B := w.heap.size) E7.out.size hKb7.out))
    have hN8 : min xn L3.length = min xn 6 := by rw [hL3n.out]
    have hL8n := hid (show L8.length = 6 from LD.len.trans hL3n.out)
    have hS8 := hid (fun i (hi : i < 6) (hx : i < xn) => show (ocA L8 i).l = fillL (ocA Xs i).l from by
      rw [LD.S i (by show i < L3.length; rw [hL3n.out]; exact hi), if_pos (by show i < min xn L3.length; rw [hL3n.out]; omega)])
    have hO8 := hid (fun (h0 : xn ≠ 0) z (hz : (Lit.int .i64 z).wf = true) => show Maps.has DO8 (.int .i64 z) = (decide (0 ≤ z ∧ z < ((6 : Nat) : Int)) && (fun _ => false) z.toNat) from by
      rw [Bool.and_false, LD.O z hz]
      by_cases hz0 : z = 0
      · rw [if_pos ⟨by omega, by show z < ((min xn L3.length : Nat) : Int); rw [hL3n.out]; omega⟩]
      · split
        · rfl
        · exact hO3.out z hz hz0)
    have ST8 := hid (show Still _ L8 DO8 from ⟨rfl, rfl, rfl, rfl, rfl, by show n3 ≤ 1000000; have := hn3.out; omega⟩ : Still ((((((newM wc.heap.size 6 L).after.wrote 0 y1 q1 c1).counted.moved L3 DO3 n3).clean.reset.after.wrote 5 y2 q2 c2).counted.clean.moved L8 DO8 n3)) L8 DO8)
    have D8 := hid LD.D
    clear LD S8 KLo hN8 hO3
    have mk : ∀ w, (Instr.makeSlice 35 (.int .i64 256) (.int .i64 256)).run Try.prog w = .ok (.slice (some ⟨w.heap.size, 0, none⟩) 256 256) (w.alloc (.cells (madeCells #[.int .u8 0] 256) 5)) := fun w => run_zeros 256 (by omega) w
    replace mk := hid mk
    go_wp2_with fail
    go_loopw [6] (fun i wr => ∃ k : Nat, k ≤ 6 ∧ i = .int .i64 (k : Int) ∧ Below w.heap.size w wr ∧ ∃ m9, Still m9 L8 DO8 ∧ DiskM wr b m9 K7) (fun i _ => 6 - (intOf i).toNat)
    case atStart => exact ⟨0, by omega, rfl, E8.out, _, ST8.out, D8.out⟩
    case round =>
      obtain ⟨k, hk, rfl, hb9, m9, S9, D9⟩ := hrel
      have hk0 : (0 : Int) ≤ (k : Int) := by omega
      by_cases hlt : k < 6
      · have hlt6 : (k : Int) < 6 := by omega
        have hmk := mk.out wr
        have hb1 : Below wr.heap.size wr (wr.alloc (.cells (madeCells #[.int .u8 0] 256) 5)) := (Below.refl _ _).alloc (Nat.le_refl _) _
        have O1 := made_octs 5 256 wr
        have F1 := (Blk.new wr (madeCells #[.int .u8 0] 256) 5).frz
        generalize wr.alloc (.cells (madeCells #[.int .u8 0] 256) 5) = W1 at hmk hb1 O1 F1
        have hgw := hb9.size
        have DW1 := D9.more hb1
        have hgK : ∀ j, K7 j → j ≠ wr.heap.size := fun j hj e => by have := D9.klt j hj; omega
        have hbW1 := hb9.trans (hb1.mono hgw)
        have hwr : (wr.heap.size : Nat) = wr.heap.size := rfl
        have hs1 := hb1.size
        have hmeas := measure_down 6 k hlt
        have hw : wrap64 ((k : Int) + 1) = ((k + 1 : Nat) : Int) := by
          rw [IntWalk.wrap64_in _ ⟨by omega, by omega⟩]
          rfl
        have hkwf : (Lit.int .i64 (k : Int)).wf = true := by
          rw [show (k : Int) = wrap64 (k : Int) by unfold wrap64; omega]
          exact wrap64_wf _
        by_cases hkx : k < xn
        · have hkx' : (k : Int) < (xn : Int) := by omega
          obtain ⟨b8, o8, hq8, r8⟩ := RowP.row HR.out (by rw [hxn.out]; omega)
          have c8 := (r8.below hbW1 r8.lt).at0 (i := k) (by rw [hxn.out]; omega) (v := .slice (ocA Xs k).a (ocA Xs k).l.length (ocA Xs k).cap) rfl
          rw [show k * ocT.sz = k from Nat.mul_one k] at c8
          have hxt := (HT.out _ (ocA_mem Xs k (by rw [hxn.out]; omega))).more (by have := hbW1; exact ⟨this.os, this.tape, this.output, this.size, this.block⟩)
          have hxS := hid (hS8.out k hlt hkx)
          rw [hq8]
          obtain ⟨hcp, ho2, hf2⟩ := copy_run W1 wr.heap.size 256 O1 F1 (ocA Xs k) hxt
          have S12 : Sole (fun j => j = wr.heap.size) W1 (W1.setCells wr.heap.size 0 (((ocA Xs k).l.take 256).map fun x => .int .u8 (x.toNat : Int))) := sole_setCells (S := fun j => j = wr.heap.size) rfl _ _ _
          generalize W1.setCells wr.heap.size 0 (((ocA Xs k).l.take 256).map fun x => .int .u8 (x.toNat : Int)) = W2 at hcp ho2 S12
          generalize ((ocA Xs k).l.take 256).length = n2 at hcp
          have D2 := DW1.kept S12 hgK
          have KR := read_any m9 b (k : Int) hkwf K7 W2 D2 S9.trb
          rw [S9.cur k, hxS.out, S9.L, show L8.length = 6 from hL8n.out] at KR
          have hbW2 := hbW1.trans (S12.below (B := w.heap.size) hbW1.size fun j e => by omega)
          have hl : (fillL (ocA Xs k).l).length = 256 := fillL_len _
          generalize fillL (ocA Xs k).l = l at *
          generalize ocA Xs k = x at *
          replace KR := hid KR
          replace hbW2 := hid hbW2
          replace ho2 := hid ho2
          replace S9 := hid S9
          replace hl := hid hl
          replace hmeas := hid hmeas
          have hgKh := hid hgK
          have hg2 := hid (show wr.heap.size < W2.heap.size from by have := S12.size; have := hmk; rcases ho2.out with h | ⟨b3, o3, e3, h3, _⟩; (have := hl.out; rw [h] at this; cases this); (cases e3; exact h3))
          clear hb9 D9 hb1 O1 F1 DW1 hbW1 r8 hxt hxS hf2 S12 D2 hq8 hkwf hgw hgK hs1
          generalize wr.heap.size = g at *
          go_wp2_with (with_reducible refine wpList_copy_ran _ rfl (.tmp 41) (.tmp 45) _ _ rfl _ _ rfl rfl _ _ (hcp _) ?_)
          refine KR.out.mono ?_
          rintro e w3 ⟨hin, _, D3, S3⟩
          obtain ⟨v, rfl, a3, c3, rfl, O3⟩ := hin ⟨hk0, by omega⟩
          have hcv1 := conv_octs (Octs.of_own O3) c3
          have hcv2 := conv_octs (ho2.out.sole S3 (fun b' o e _ hk' => by cases e; exact hgKh.out _ hk' rfl)) 256
          rw [hl.out] at hcv1 hcv2 ⊢
          have E3 := hid (show Below w.heap.size w w3 ∧ ∃ m9, Still m9 L8 DO8 ∧ DiskM w3 b m9 K7 from ⟨hbW2.out.trans (S3.below (B := w.heap.size) hbW2.out.size hKb7.out), _, S9.out.after, D3⟩)
          have htt : ((textOf l).toList == (textOf l).toList) = true := by simp
          clear hin D3 S3 O3 ho2 hl KR hcp hbW2 S9
          generalize textOf l = tx at *
          go_wp2_with fail
          refine ⟨⟨k + 1, hlt, rfl, E3.out.1, E3.out.2⟩, ?_⟩
          exact hmeas.out _ rfl
        · have hkx' : ¬ (k : Int) < (xn : Int) := by omega
          have KR := read_any m9 b (k : Int) hkwf K7 W1 DW1 S9.trb
          rw [S9.L, show L8.length = 6 from hL8n.out] at KR
          replace KR := hid KR
          replace hbW1 := hid hbW1
          replace S9 := hid S9
          replace hmeas := hid hmeas
          clear hb9 D9 hb1 O1 F1 DW1 hkwf hgw hgK hs1 hkx
          generalize wr.heap.size = g at *
          go_wp2_with fail
          refine KR.out.mono ?_
          rintro e w3 ⟨hin, _, D3, S3⟩
          obtain ⟨v, rfl, a3, c3, rfl, O3⟩ := hin ⟨hk0, by omega⟩
          have E3 := hid (show Below w.heap.size w w3 ∧ ∃ m9, Still m9 L8 DO8 ∧ DiskM w3 b m9 K7 from ⟨hbW1.out.trans (S3.below (B := w.heap.size) hbW1.out.size hKb7.out), _, S9.out.after, D3⟩)
          clear hin D3 S3 O3 KR hbW1 S9
          go_wp2_with fail
          refine ⟨⟨k + 1, hlt, rfl, E3.out.1, E3.out.2⟩, ?_⟩
          exact hmeas.out _ rfl
      · obtain rfl : k = 6 := by omega
        have KW9 := waits_any m9 b wr D9.blk
        rw [S9.Q] at KW9
        replace KW9 := hid KW9
        have hb9h := hid hb9
        by_cases hx0 : xn = 0
        · subst hx0
          clear hb9 D9 S9
          go_wp2_with fail
          refine KW9.out.mono ?_
          rintro e w3 ⟨rfl, hw3⟩
          rw [hw3]
          clear hw3 w3 KW9
          go_wp2_with fail
          go_ret
          exact ⟨rfl, hb9h.out⟩
        · have KO := hid (odd_any m9 b K7 wr D9 S9.n 6 (by omega) (fun _ => false) (by rw [S9.O]; exact hO8.out hx0))
          have hxn0 : ((xn : Int) == 0) = false := by rw [beq_eq_false_iff_ne]; omega
          replace hx0 := hid hx0
          clear hb9 D9 S9
          go_wp2_with fail
          refine KW9.out.mono ?_
          rintro e w3 ⟨rfl, hw3⟩
          rw [hw3]
          clear hw3 w3 KW9
          go_wp2_with fail
          refine KO.out.mono ?_
          rintro e w3 ⟨v, rfl, _, hnil, hb3⟩
          obtain rfl : v = .slice none 0 0 := hnil.2 (by unfold oddN; rw [List.filter_eq_nil_iff.2 (fun a _ => by simp)]; rfl)
          have E3 := hid (below2 hb9h.out hb3 hb9h.out.size)
          clear hnil hb3 KO
          go_wp2_with fail
          go_ret
          exact ⟨rfl, E3.out⟩
end Go.Proofs.Ytoadcbegbkcigaa
