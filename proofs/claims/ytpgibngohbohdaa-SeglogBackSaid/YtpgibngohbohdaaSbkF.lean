/-
  The law of the log's parts: what is written is a batch.
-/
import Derived.Test.YtpgibngohbohdaaSbkE
import Derived.Test.YtpgibngohbohdaaSbkB
import Derived.Test.YtpgibngohbohdaaSbkC
import Derived.Deep.DeepCutAuto
import Derived.Outline

namespace Go.Proofs.Ytpgibngohbohdaa
open Go.RowKit Go.Maps
set_option linter.unusedVariables false
set_option linter.unusedSimpArgs false

theorem nodes_256 (L : List ItS) (f : Nat → En) (ep sq : Int) : ∀ n, nodesOk L f ep sq n → ∀ l ∈ nodesL L f ep sq n, l.length = 256
  | 0, _, l, h => by cases h
  | n + 1, hok, l, h => by
    have ih := nodes_256 L f ep sq n (fun j hj e => hok j (by omega) e)
    unfold nodesL at h
    split at h
    · rename_i hk
      rcases List.mem_append.1 h with h | h
      · exact ih l h
      · rw [List.mem_singleton.1 h]
        exact nsL_len (hok n (by omega) hk)
    · exact ih l h
theorem place64 (c : Int) (m : Nat) (h0 : 0 < m) (hm : m ≤ 1000) : ∃ (k : Nat) (u : Int), k < m ∧ wrap64 (Int.tmod c (m : Int) + (m : Int)) = u ∧ Int.tmod u (m : Int) = (k : Int) := by
  obtain ⟨k, hk, _, h3, h4, h5⟩ := place_of c m h0 hm
  have h1 : Int.tmod c (m : Int) < (m : Int) := Int.tmod_lt_of_pos c (by omega)
  exact ⟨k, Int.tmod c (m : Int) + (m : Int), hk, wrap_small _ (by omega) (by omega), h4⟩
set_option maxRecDepth 100000 in
set_option maxHeartbeats 4000000 in
theorem seglogBack (nx : Int) (la : Bool) (p : Option Addr) (n0 cap : Nat) (f : Nat → En) (h1 : n0 ≤ cap) (h2 : cap ≤ maxLen) (hfw : ∀ i, i < n0 → (Lit.int .i64 (f i).i).wf = true) (ep sq : Int) (L : List ItS) (lp : Option Addr) (lc : Nat) (hurt left : Int) (w : World) (HR : RowP w p 2 n0 (fun i => ecells (f i))) (HL : ItsOk w lp lc L) :
    Calls Try.prog 4 #[smval nx la p n0 cap, .int .i64 ep, .int .i64 sq, .slice lp L.length lc, .int .i64 hurt, .int .i64 left] w fun e w' => e = .returned (.bool true) ∧ Below w.heap.size w w' := by
  have KA := hid (fun w => alive19 w)
  have hb0 : Below w.heap.size w (w.alloc (.cells (smcells nx la p n0 cap) 44)) := below_al1 _ _
  have B0 := hid (Blk.new w (smcells nx la p n0 cap) 44)
  have D0 := hid hb0
  have hn63 : (n0 : Int) ≤ 9223372036854775807 := by unfold maxLen at h2; omega
  have HRh := hid HR
  have HLh := hid HL
  have hfwh := hid hfw
  have h12 := hid (And.intro h1 h2)
  clear HR HL hfw hb0
  generalize hW0 : w.alloc (.cells (smcells nx la p n0 cap) 44) = W0 at *
  go_enter Try.func4, Try.ntmps4
  go_wp2_with fail
  refine (KA.out _).mono ?_
  rintro e w1 ⟨rfl, hb1⟩
  have D1 := hid (below2 D0.out hb1 D0.out.size)
  have B1 := hid (B0.out.more hb1)
  clear hb1 KA B0 D0 hW0
  obtain ⟨l0, k0, f0⟩ := B1.out
  go_upto_if 37 with (fail)
  go_cut [12] (fun v wx => v = .bool false ∧ ∃ n, n ≤ 20 ∧ n ≤ n0 ∧ Blk wx w.heap.size (smcells nx la p n cap) ∧ Below w.heap.size w wx)
  case first =>
    by_cases h20 : 20 < n0
    · have h20' : decide ((n0 : Int) > 20) = true := decide_eq_true (by omega)
      have h20a : (20 : Int) ≤ (cap : Int) := by omega
      have h20b : (20 : Int) < (n0 : Int) := by omega
      have B2 := hid (B1.out.set 2 (.slice p 20 cap) (by simp))
      have D2 := hid (show Below w.heap.size w (w1.setCell ⟨w.heap.size, 2, none⟩ (.slice p 20 cap)) from Below.setCell (p := ⟨w.heap.size, 2, none⟩) D1.out (Nat.le_refl _) _)
      obtain ⟨b9, o9, rfl, _⟩ := RowP.row HRh.out (by omega)
      have h20n := hid h20
      clear h20
      go_wp2_with fail
      go_meet
      case rel => exact ⟨rfl, 20, Nat.le_refl _, by have := h20n.out; omega, by have := B2.out; simpa using this, D2.out⟩
    · have h20' : decide ((n0 : Int) > 20) = false := decide_eq_false (by omega)
      have h20b : ¬ (20 : Int) < (n0 : Int) := by omega
      have h20n := hid h20
      clear h20
      go_wp2_with fail
      go_meet
      case rel => exact ⟨rfl, n0, by have := h20n.out; omega, Nat.le_refl _, B1.out, D1.out⟩
  case rest =>
    obtain ⟨rfl, n, hn20, hnn, B2, D2⟩ := hcut
    have HRn : RowP w p 2 n (fun i => ecells (f i)) := by
      rcases HRh.out with h | ⟨b9, o9, e9, r⟩
      · exact .inl (by omega)
      · exact .inr ⟨b9, o9, e9, r.lt, fun i hi j v hv => r.cell i (by omega) j v hv⟩
    have KS := hid (sectors_any nx la p n cap f (by have := h12.out.1; omega) h12.out.2 (fun i hi => hfwh.out i (by omega)) ep sq L lp lc wc (HRn.more D2) (HLh.out.more D2))
    have HRnh := hid HRn
    have B2h := hid B2
    have D2h := hid D2
    have hnc := hid (show n ≤ cap ∧ cap ≤ maxLen from by have := h12.out.1; exact ⟨by omega, h12.out.2⟩)
    have hn20h := hid hn20
    clear HRh h12 hfwh B1 D1 D2 HRn hnn hn63 hn20 l0 k0 f0
    obtain ⟨l0, k0, f0⟩ := B2
    go_wp2_with fail
    refine KS.out.mono ?_
    rintro e w3 ⟨v3, C, rfl, hb3, hS⟩
    have KN := hid (dnew_any 40 w3)
    have B3 := hid (B2h.out.more hb3)
    have D3 := hid (below2 D2h.out hb3 D2h.out.size)
    clear KS B2h l0 k0 f0
    by_cases hC : C = 0
    · subst hC
      have SO := hS rfl
      obtain ⟨g, c, Xs, hv3, RX, hX, hXo⟩ := SO.ex
      have hXl : Xs.length = cntW f n + 1 := by
        have := congrArg List.length hX
        simpa [nodesL_len] using this
      have hcn := cntW_le f n
      have hXn : Xs.length ≤ 21 := by have := hn20h.out; omega
      have hX256 : ∀ x ∈ Xs, x.l.length = 256 := fun x hx => by
        have hm : x.l ∈ sealB 4 ⟨ep, sq, 0⟩ (smB nx la n f) :: nodesL L f ep sq n := by rw [← hX]; exact List.mem_map.2 ⟨x, hx, rfl⟩
        rcases List.mem_cons.1 hm with h | h
        · rw [h]; exact sealB_length _ _ _ SO.room
        · exact nodes_256 L f ep sq n SO.nodes _ h
      subst hv3
      have SOh := hid SO
      have hs2 := hid (show wc.heap.size ≤ w3.heap.size from hb3.size)
      have hgl := hid (RX.within g rfl)
      have RXh := hid (row_of ocOk RX)
      have hXh := hid (And.intro hX (And.intro hXo hX256))
      have hXlh := hid hXl
      have hXnh := hid hXn
      clear hS SO RX hX hXo hX256 hb3 hXl hcn
      go_wp2_with fail
      refine KN.out.mono ?_
      rintro e w4 ⟨Ld, rfl, D4, N4, hb4⟩
      rw [show sectorsN 40 = 40 from rfl] at D4 N4
      have hbK := hid (fun k (hk : w3.heap.size ≤ k ∧ k < w4.heap.size) => hk.1)
      have Q4 : Quiet (newM w3.heap.size 40 Ld) 40 (fun z => ((newM w3.heap.size 40 Ld).cur z).l) := ⟨N4.off, N4.tf, N4.S, fun z => rfl⟩
      have T4 : Soft (newM w3.heap.size 40 Ld) 0 := ⟨N4.tl, by rw [N4.n]; exact Nat.le_refl _, by rw [N4.Q]; exact Nat.le_refl _⟩
      have KW := hid (segwrite_ok (newM w3.heap.size 40 Ld) (w3.heap.size + 3) _ w4 D4 Q4 T4 (by omega) 3 (by omega) (some ⟨g, 0, none⟩) c Xs (by have := hXnh.out; omega) (by have := hXnh.out; omega) (by omega) (RowOf.more RXh.out hb4) (fun b' o e hn hk => by cases e; have := hgl.out; omega)
        (fun x hx => ⟨((hXh.out.2.1 x hx).1).more hb4, hXh.out.2.2 x hx, fun b' o e hk => by
          have h9 := (hXh.out.2.1 x hx).1
          rcases h9.1 with h | ⟨b9, o9, e9, h8, _⟩
          · have := hXh.out.2.2 x hx; rw [h] at this; cases this
          · rw [e9] at e; cases e; omega⟩))
      have B4 := hid (B3.out.more hb4)
      have D4h := hid (below2 D3.out hb4 D3.out.size)
      have hsz4 := hid (show w.heap.size < w3.heap.size from B3.out.lt)
      have HRw := hid hb4
      generalize (fun z => ((newM w3.heap.size 40 Ld).cur z).l) = R0 at *
      clear KN D4 N4 Q4 T4 hb4 B3
      go_wp2_with fail
      refine KW.out.mono ?_
      rintro e w5 ⟨rfl, m5, K5, D5, S5, hK5, Q5, T5⟩
      have St := stands_of R0 3 ep sq nx la n f L Xs hXh.out.1
      have P := part_whole St SOh.out HLh.out
      generalize wrote R0 3 Xs Xs.length = R at *
      have hKl := hid (fun k (hk : K5 k) => show w3.heap.size ≤ k from (hK5 k hk).elim (fun h => h.1) (fun h => by have := HRw.out.size; omega))
      have B5 := B4.out.sole S5 (fun hk => by have := hk.1; have := hsz4.out; omega)
      have D5h := hid (D4h.out.trans (S5.below (B := w.heap.size) D4h.out.size (fun k hk => by have := hk.1; have := hsz4.out; omega)))
      obtain ⟨lk, u, hlk, hu1, hu2⟩ := place64 left 30 (by omega) (by omega)
      change wrap64 (Int.tmod left 30 + 30) = u at hu1
      change Int.tmod u 30 = (lk : Int) at hu2
      have hcn := hid (show (3 : Int) + 1 + (cntW f n : Int) ≤ ((40 : Nat) : Int) from by have := hXlh.out; have := hXnh.out; omega)
      have KB1 := hid (sbatch_any m5 (w3.heap.size + 3) K5 w5 D5 Q5 T5 3 (lk : Int) ep sq (by omega) (by omega) ⟨ep, sq, 0⟩ nx la n f (fun _ => false) P hcn.out)
      have Sth := hid St
      have Ph := hid P
      have B5h := hid B5
      have hXi : (Xs.length : Int) = 1 + (cntW f n : Int) := by have := hXlh.out; omega
      replace hXi := hid hXi
      generalize hbn : w3.heap.size + 3 = bd at *
      clear KW D5 S5 hK5 Q5 T5 B4 D4h HRw St P B5 hbn
      go_wp2_with fail
      refine KB1.out.mono ?_
      rintro e w6 ⟨d6, S6, hres⟩
      have hlk2 := hid hlk
      have B6 := hid (B5h.out.sole S6 (fun hk => by have := hKl.out _ hk; have := hsz4.out; omega))
      have D6h := hid (D5h.out.trans (S6.below (B := w.heap.size) D5h.out.size (fun k hk => by have := hKl.out _ hk; have := hsz4.out; omega)))
      clear KB1 S6 B5h D5h hlk hu1 hu2
      rcases hres with ⟨hok, q6, c6, rfl, c1, c2, RQ⟩ | ⟨hok, rfl⟩
      · have hle : (Xs.length : Int) ≤ (lk : Int) := by have h9 := hok.2.1; have := hXi.out; omega
        have b7 : Below w6.heap.size w6 (w6.alloc (.cells (smcells nx la q6 n c6) 44)) := below_al1 _ _
        have B16 := Blk.new w6 (smcells nx la q6 n c6) 44
        have B7 := B6.out.more b7
        have D7 := hid (below2 D6h.out b7 D6h.out.size)
        have KE := bsame_any nx nx la la q6 p n n c6 cap f f c1 c2 hnc.out.1 hnc.out.2 _ (RQ.more b7) (HRnh.out.more D7.out)
        rw [bSame_back nx la n f f (fun _ _ => rfl)] at KE
        replace KE := hid KE
        have d7 := hid (d6.elim fun m' hd => show ∃ m', DiskM (w6.alloc (.cells (smcells nx la q6 n c6) 44)) bd m' K5 ∧ Quiet m' 40 R ∧ Soft m' (0 + Xs.length) from ⟨m', hd.1.more b7, hd.2⟩)
        have B7h := hid B7
        generalize hW7 : w6.alloc (.cells (smcells nx la q6 n c6) 44) = W7 at *
        clear hok RQ d6 b7 B6 D6h
        obtain ⟨l1, k1, f1⟩ := B16
        obtain ⟨l2, k2, f2⟩ := B7
        go_wp2_with fail
        refine KE.out.mono ?_
        rintro e W13 ⟨rfl, hb13⟩
        have B13 := hid (B7h.out.more hb13)
        have D13 := hid (below2 D7.out hb13 D7.out.size)
        have d13 := hid (d7.out.elim fun m' hd => show ∃ m', DiskM W13 bd m' K5 ∧ Quiet m' 40 R ∧ Soft m' (0 + Xs.length) from ⟨m', hd.1.more hb13, hd.2⟩)
        clear KE hb13 d7 B7h D7 hW7 l1 k1 f1 l2 k2 f2 hle c1 c2
        go_upto_region 13 with (fail)
        obtain ⟨m13, Dd, Q13, T13⟩ := d13.out
        have hfits := hid SOh.out.fits
        have he1h := hid (show wrap64 (ep + 1) = ep + 1 from IntWalk.wrap64_in _ ⟨by have := SOh.out.fits.2.2.1; have h9 : 0 ≤ ep := this; omega, by have := SOh.out.fits.2.2.2.1; have h9 : ep ≤ 4294967295 := this; omega⟩)
        have hs1h := hid (show wrap64 (sq + 1) = sq + 1 from IntWalk.wrap64_in _ ⟨by have := SOh.out.fits.2.2.2.2.1; have h9 : 0 ≤ sq := this; omega, by have := SOh.out.fits.2.2.2.2.2.1; have h9 : sq ≤ 4294967295 := this; omega⟩)
        have KB2 := hid (sbatch_any m13 bd K5 W13 Dd Q13 T13 3 30 (ep + 1) sq (by omega) (by omega) ⟨ep, sq, 0⟩ nx la n f (fun _ => false) Ph.out hcn.out)
        clear Dd Q13 T13 d13
        have he1 := he1h.out
        go_wp2_with fail
        clear he1
        refine KB2.out.mono ?_
        rintro e w14 ⟨d14, S14, hres⟩
        obtain rfl : e = .returned (.tuple #[smval 0 false none 0 0, .bool false, .int .i64 0]) := by
          rcases hres with ⟨h, _⟩ | ⟨_, h⟩
          · exfalso
            have := congrArg Stp.e h.1
            dsimp only at this
            omega
          · exact h
        have b15 : Below w14.heap.size w14 (w14.alloc (.cells (smcells 0 false none 0 0) 44)) := below_al1 _ _
        have D15 := hid (below2 (D13.out.trans (S14.below (B := w.heap.size) D13.out.size (fun k hk => by have := hKl.out _ hk; have := hsz4.out; omega))) b15 (Nat.le_trans D13.out.size S14.size))
        obtain ⟨m15, Dd, Q15, T15⟩ := d14
        have KB3 := hid (sbatch_any m15 bd K5 _ (Dd.more b15) Q15 T15 3 30 ep (sq + 1) (by omega) (by omega) ⟨ep, sq, 0⟩ nx la n f (fun _ => false) Ph.out hcn.out)
        obtain ⟨l1, k1, f1⟩ := Blk.new w14 (smcells 0 false none 0 0) 44
        clear KB2 hres S14 Dd Q15 T15 b15 D13
        have hs1 := hs1h.out
        go_wp2_with fail
        clear hs1
        refine KB3.out.mono ?_
        rintro e w16 ⟨d16, S16, hres⟩
        obtain rfl : e = .returned (.tuple #[smval 0 false none 0 0, .bool false, .int .i64 0]) := by
          rcases hres with ⟨h, _⟩ | ⟨_, h⟩
          · exfalso
            have := congrArg Stp.s h.1
            dsimp only at this
            omega
          · exact h
        have b17 : Below w16.heap.size w16 (w16.alloc (.cells (smcells 0 false none 0 0) 44)) := below_al1 _ _
        have D17 := hid (below2 (D15.out.trans (S16.below (B := w.heap.size) D15.out.size (fun k hk => by have := hKl.out _ hk; have := hsz4.out; omega))) b17 (Nat.le_trans D15.out.size S16.size))
        have d17 := hid (d16.elim fun m' hd => show ∃ m', DiskM (w16.alloc (.cells (smcells 0 false none 0 0) 44)) bd m' K5 ∧ Quiet m' 40 R ∧ Soft m' (0 + Xs.length) from ⟨m', hd.1.more b17, hd.2⟩)
        clear l1 k1 f1
        obtain ⟨l1, k1, f1⟩ := Blk.new w16 (smcells 0 false none 0 0) 44
        clear KB3 hres S16 d16 b17 D15
        go_wp2_with fail
        clear l1 k1 f1
        generalize w16.alloc (.cells (smcells 0 false none 0 0) 44) = W17 at *
        have hX1 := hid (show 1 ≤ Xs.length ∧ Xs.length ≤ 21 ∧ (Xs.length : Int) ≤ 21 from by have := hXlh.out; have := hXnh.out; omega)
        go_loopw [25] (fun i wr => ∃ j : Nat, 1 ≤ j ∧ j ≤ Xs.length ∧ i = .int .i64 (j : Int) ∧ (∃ m', DiskM wr bd m' K5 ∧ Quiet m' 40 R ∧ Soft m' (0 + Xs.length)) ∧ Below w.heap.size w wr) (fun i _ => Xs.length - (intOf i).toNat)
        case atStart => exact ⟨1, Nat.le_refl _, hX1.out.1, rfl, d17.out, D17.out⟩
        case round =>
          obtain ⟨j, hj1, hj2, rfl, ⟨m', Dd, Qd, Td⟩, hbw⟩ := hrel
          clear d17 D17
          by_cases hlt : j < Xs.length
          · have hlt' : (j : Int) < (Xs.length : Int) := by omega
            obtain ⟨k, hkn, hk1, hkj⟩ := cntW_inv f n j hj1 (by have := hXlh.out; omega)
            have hb := (bCk_zero SOh.out.good).2.2.2 k hkn
            obtain ⟨hfl, hfi, ND⟩ := sec_of HLh.out (f k).i _ hb.2.1 hb.2.2 (SOh.out.nodes k hkn hk1)
            rw [← Sth.out.node k hkn hk1, show (3 : Int) + ((cntW f k : Int) + 1) = 3 + (j : Int) by omega] at ND
            have hjwh := hid (wrap_small (3 + (j : Int)) (by omega) (by have := hX1.out.2.1; omega))
            have KL := hid (sload_good m' bd (3 + (j : Int)) (wf_small _ (by omega) (by have := hX1.out.2.1; omega)) K5 wr Dd Qd (by have := hX1.out.2.1; omega) _ _ _ ND)
            have HLw := hid HLh.out
            have QT := hid (And.intro Qd.after Td.after)
            generalize hidd : (f k).i = idd at *
            generalize hfx : fxN L idd = fx at *
            have hfih := hid hfi
            have hflh := hid hfl
            have hbwh := hid hbw
            have hlth := hid (And.intro hlt hj1)
            clear hb ND Dd Qd Td hkn hk1 hkj hfi hfl hbw hlt hj1 hj2 hidd
            have hjw := hjwh.out
            go_wp2_with fail
            clear hjw
            refine KL.out.mono ?_
            rintro e w18 ⟨x, rfl, hxi, hxt, hxs, D18, S18⟩
            have b19 : Below w18.heap.size w18 (w18.alloc (.cells (itT.cells x).toArray 58)) := below_al1 _ _
            have BI := Blk.new w18 (itT.cells x).toArray 58
            have D19 := hid (below2 (hbwh.out.trans (S18.below (B := w.heap.size) hbwh.out.size (fun k hk => by have := hKl.out _ hk; have := hsz4.out; omega))) b19 (Nat.le_trans hbwh.out.size S18.size))
            have HL19 := hid (HLw.out.more D19.out)
            have hx19 := hid (hxt.more b19)
            have Dd := hid (D18.more b19)
            unfold itT at BI D19 HL19 hx19 Dd
            dsimp only at BI D19 HL19 hx19 Dd
            have hxsh := hid hxs
            rw [hxi] at BI D19 HL19 hx19 Dd
            simp only [ItS.v, hxi]
            generalize hW19 : w18.alloc (.cells #[.int .i64 idd, .bool x.nd.lf, .slice x.nd.p x.nd.n x.nd.cap, .int .i64 x.nd.nx, .int .i64 (x.nd.k 0), .int .i64 (x.nd.k 1), .int .i64 (x.nd.k 2), .int .i64 (x.nd.k 3), .int .i64 (x.nd.c 0), .int .i64 (x.nd.c 1), .int .i64 (x.nd.c 2), .int .i64 (x.nd.c 3)] 58) = W19 at *
            have BIh := hid BI
            have KF := hid (find19_any L lp lc HL19.out.h1 HL19.out.h2 idd W19 HL19.out.row)
            obtain ⟨l3, k3, f3⟩ := BI
            clear KL hxi hxt hxs D18 S18 b19 HLw
            go_wp2_with fail
            refine KF.out.mono ?_
            rintro e W20 ⟨rfl, hb20⟩
            rw [hfih.out]
            have BI20 := hid (BIh.out.more hb20)
            have HL20 := HL19.out.more hb20
            have D20 := hid (below2 D19.out hb20 D19.out.size)
            have Dd20 := hid (Dd.out.more hb20)
            have hx20 := hx19.out.more hb20
            obtain ⟨bl, ol, hql, rl⟩ := RowP.row HL20.row (by have := hflh.out; omega)
            have hbl := rl.lt
            have z1 : W20.cell? ⟨bl, ol + fx * 12 + 1, none⟩ = some (.bool (itA L fx).nd.lf) := rl.at1 hflh.out rfl
            have z2 : W20.cell? ⟨bl, ol + fx * 12 + 2, none⟩ = some (.slice (itA L fx).nd.p (itA L fx).nd.n (itA L fx).nd.cap) := rl.cell fx hflh.out 2 _ rfl
            have z3 : W20.cell? ⟨bl, ol + fx * 12 + 3, none⟩ = some (.int .i64 (itA L fx).nd.nx) := rl.cell fx hflh.out 3 _ rfl
            have z4 : W20.cell? ⟨bl, ol + fx * 12 + 4, none⟩ = some (.int .i64 ((itA L fx).nd.k 0)) := rl.cell fx hflh.out 4 _ rfl
            have z5 : W20.cell? ⟨bl, ol + fx * 12 + 5, none⟩ = some (.int .i64 ((itA L fx).nd.k 1)) := rl.cell fx hflh.out 5 _ rfl
            have z6 : W20.cell? ⟨bl, ol + fx * 12 + 6, none⟩ = some (.int .i64 ((itA L fx).nd.k 2)) := rl.cell fx hflh.out 6 _ rfl
            have z7 : W20.cell? ⟨bl, ol + fx * 12 + 7, none⟩ = some (.int .i64 ((itA L fx).nd.k 3)) := rl.cell fx hflh.out 7 _ rfl
            have z8 : W20.cell? ⟨bl, ol + fx * 12 + 8, none⟩ = some (.int .i64 ((itA L fx).nd.c 0)) := rl.cell fx hflh.out 8 _ rfl
            have z9 : W20.cell? ⟨bl, ol + fx * 12 + 9, none⟩ = some (.int .i64 ((itA L fx).nd.c 1)) := rl.cell fx hflh.out 9 _ rfl
            have z10 : W20.cell? ⟨bl, ol + fx * 12 + 10, none⟩ = some (.int .i64 ((itA L fx).nd.c 2)) := rl.cell fx hflh.out 10 _ rfl
            have z11 : W20.cell? ⟨bl, ol + fx * 12 + 11, none⟩ = some (.int .i64 ((itA L fx).nd.c 3)) := rl.cell fx hflh.out 11 _ rfl
            have hyd := HL20.nd _ (show itA L fx ∈ L from atR_mem (T := itT) L fx hflh.out)
            have hfl' : (fx : Int) < (L.length : Int) := by have := hflh.out; omega
            have hf0 : decide ((fx : Int) < 0) = false := decide_eq_false (by omega)
            generalize (itA L fx).nd = y at *
            have KSm := hid (fun W (hb : Below W20.heap.size W20 W) => by
              have := refSame_any x.nd.lf y.lf x.nd.p y.p x.nd.n y.n x.nd.cap y.cap x.nd.f y.f x.nd.nx y.nx x.nd.k y.k x.nd.c y.c hx20.h1 hx20.h2 hyd.h1 hyd.h2 W (hx20.row.more hb) (hyd.row.more hb)
              rw [show nSame x.nd.lf y.lf x.nd.n y.n x.nd.f y.f x.nd.nx y.nx x.nd.k y.k x.nd.c y.c = true from hxsh.out] at this
              exact this)
            clear KF hb20 HL19 HL20 D19 Dd hx19 hx20 rl hyd hxsh BIh l3 k3 f3 hfih hW19
            subst hql
            go_wp2_with fail
            have q0 := fun u : Later W20 => u.blk BI20.out
            have q1 := fun u : Later W20 => (u.cell bl (ol + fx * 12 + 1) hbl).trans z1
            have q2 := fun u : Later W20 => (u.cell bl (ol + fx * 12 + 2) hbl).trans z2
            have q3 := fun u : Later W20 => (u.cell bl (ol + fx * 12 + 3) hbl).trans z3
            have q4 := fun u : Later W20 => (u.cell bl (ol + fx * 12 + 4) hbl).trans z4
            have q5 := fun u : Later W20 => (u.cell bl (ol + fx * 12 + 5) hbl).trans z5
            have q6 := fun u : Later W20 => (u.cell bl (ol + fx * 12 + 6) hbl).trans z6
            have q7 := fun u : Later W20 => (u.cell bl (ol + fx * 12 + 7) hbl).trans z7
            have q8 := fun u : Later W20 => (u.cell bl (ol + fx * 12 + 8) hbl).trans z8
            have q9 := fun u : Later W20 => (u.cell bl (ol + fx * 12 + 9) hbl).trans z9
            have q10 := fun u : Later W20 => (u.cell bl (ol + fx * 12 + 10) hbl).trans z10
            have q11 := fun u : Later W20 => (u.cell bl (ol + fx * 12 + 11) hbl).trans z11
            clear z1 z2 z3 z4 z5 z6 z7 z8 z9 z10 z11
            refine wp_region_late 16 (by kernel_rfl) (by kernel_rfl) ?_
            simp only [List.take_succ_cons, List.take_zero, List.drop_succ_cons, List.drop_zero]
            iterate 16 (go_big_quiet_step ((go_at_call 22; with_reducible exact late_call (KSm.out _ (Later.h _)))))
            refine wpQuiet_nil ?_
            intro w21 h21'
            have h21 := late_out h21'
            have D21 := hid (below2 D20.out h21 D20.out.size)
            have d21 := hid (show ∃ m', DiskM w21 bd m' K5 ∧ Quiet m' 40 R ∧ Soft m' (0 + Xs.length) from ⟨m'.after, Dd20.out.more h21, QT.out.1, QT.out.2⟩)
            clear h21 h21' q0 q1 q2 q3 q4 q5 q6 q7 q8 q9 q10 q11 KSm BI20 D20 Dd20
            go_wp2_with fail
            go_roundw
            case rel => exact ⟨j + 1, by have := hlth.out; omega, by have := hlth.out; omega, by simp, d21.out, D21.out⟩
            case measure => have := hlth.out; simp [intOf]; omega
          · obtain rfl : j = Xs.length := by omega
            have hlt' : ¬ (Xs.length : Int) < (Xs.length : Int) := by omega
            obtain ⟨hk, u9, hkl, hu1, hu2⟩ := place64 hurt Xs.length hX1.out.1 (by have := hX1.out.2.1; omega)
            have hu1h := hid hu1
            have hu2h := hid hu2
            clear hu1 hu2
            have hXne : ((Xs.length : Int) == 0) = false := by rw [beq_eq_false_iff_ne]; have := hX1.out.1; omega
            have hXnil : ¬ Xs = [] := by intro h; have := hX1.out.1; rw [h] at this; exact absurd this (by decide)
            have b22 : Below wr.heap.size wr (wr.alloc (.cells (madeCells #[.int .u8 0] 256) 5)) := below_al1 _ _
            have hT : (⟨some ⟨wr.heap.size, 0, none⟩, 256, zerosN 256⟩ : OcS).there (wr.alloc (.cells (madeCells #[.int .u8 0] 256) 5)) := ⟨made_octs 5 256 wr, by rw [zerosN_len]; exact Nat.le_refl _, by show 256 ≤ maxLen; unfold maxLen; omega⟩
            have hkw : (Lit.int .i64 (3 + (hk : Int))).wf = true := wf_small _ (by omega) (by have := hX1.out.2.1; omega)
            have KW9 := hid (wr_done m' bd (3 + (hk : Int)) K5 _ (Dd.more b22) Qd Td (by have := hX1.out.2.1; omega) hkw (by omega) (by have := hX1.out.2.1; omega) ⟨some ⟨wr.heap.size, 0, none⟩, 256, zerosN 256⟩ hT (fun b' o e h => by cases e; have := Dd.klt _ h; omega) (zerosN_len 256))
            rw [show (⟨some ⟨wr.heap.size, 0, none⟩, 256, zerosN 256⟩ : OcS).l.length = 256 from zerosN_len 256] at KW9
            dsimp only at KW9
            have mkz : ∀ w, (Instr.makeSlice 35 (.int .i64 256) (.int .i64 256)).run Try.prog w = .ok (.slice (some ⟨w.heap.size, 0, none⟩) 256 256) (w.alloc (.cells (madeCells #[.int .u8 0] 256) 5)) := fun w => run_zeros 256 (by omega) w
            have hkwh := hid (wrap_small (3 + (hk : Int)) (by omega) (by have := hX1.out.2.1; omega))
            have D22 := hid (below2 hbw b22 hbw.size)
            have hwz := hid b22.size
            have hbwh := hid hbw
            have hklh := hid hkl
            clear Dd Qd Td hT b22 hbw hlt hj1 hj2 hkw hkl
            have hu1 := hu1h.out
            have hu2 := hu2h.out
            have hkw1 := hkwh.out
            go_wp2_with fail
            clear hu1 hu2 hkw1 hu1h hu2h hXnil
            refine KW9.out.mono ?_
            rintro e w23 ⟨rfl, m6, K6, D6, S6, hK6, Q6, T6⟩
            have KB4 : Calls Try.prog 18 #[.pointer (some ⟨bd, 0, none⟩), .int .i64 3, .int .i64 30, .int .i64 ep, .int .i64 sq] w23 fun e w' => e = .returned (.tuple #[smval 0 false none 0 0, .bool false, .int .i64 0]) ∧ Sole K6 w23 w' := by
              by_cases h0 : hk = 0
              · subst h0
                have hcur : (m6.cur 3).l = zerosN 256 := by rw [Q6.cur 3]; exact if_pos (by omega)
                refine (sbatch_bad m6 bd 3 (by decide) K6 w23 D6 Q6.trb (by rw [Q6.len]; omega) (by rw [hcur, zerosN_len]; omega) (by rw [hcur]; exact goodB_zeros) 30 ep sq).mono ?_
                rintro e w' ⟨rfl, _, S⟩
                exact ⟨rfl, S⟩
              · refine (sbatch_any m6 bd K6 w23 D6 Q6 T6 3 30 ep sq (by omega) (by omega) ⟨ep, sq, 0⟩ nx la n f _ (part_hurt Sth.out SOh.out HLh.out hk (by omega)) hcn.out).mono ?_
                rintro e w' ⟨_, S, hres⟩
                refine ⟨?_, S⟩
                rcases hres with ⟨h, _⟩ | ⟨_, h⟩
                · exfalso
                  have := h.2.2 hk (by omega) (by have := hklh.out; have := hXlh.out; omega)
                  simp at this
                · exact h
            have hK6l := hid (fun k (h : K6 k) => show w.heap.size ≤ k from (hK6 k h).elim (fun h => by have := hKl.out _ h; have := hsz4.out; omega) (fun h => by have := D22.out.size; omega))
            have D23 := hid (D22.out.trans (S6.below (B := w.heap.size) D22.out.size (fun k h => by have := hKl.out _ h; have := hsz4.out; omega)))
            replace KB4 := hid KB4
            clear KW9 D6 S6 hK6 Q6 T6
            go_wp2_with fail
            refine KB4.out.mono ?_
            rintro e w24 ⟨rfl, S24⟩
            have D24 := D23.out.trans (S24.below (B := w.heap.size) D23.out.size hK6l.out)
            have D25 := hid (below2 D24 (below_al1 w24 (.cells (smcells 0 false none 0 0) 44)) D24.size)
            obtain ⟨l3, k3, f3⟩ := Blk.new w24 (smcells 0 false none 0 0) 44
            clear KB4 S24 D24
            go_wp2_with fail
            go_ret
            exact ⟨rfl, D25.out⟩
      · have hle : ¬ (Xs.length : Int) ≤ (lk : Int) := by
          intro h
          exact hok ⟨rfl, by have := hXi.out; omega, fun _ _ _ => rfl⟩
        have b7 : Below w6.heap.size w6 (w6.alloc (.cells (smcells 0 false none 0 0) 44)) := below_al1 _ _
        have B13 := hid (B6.out.more b7)
        have D13 := hid (below2 D6h.out b7 D6h.out.size)
        have d13 := hid (d6.elim fun m' hd => show ∃ m', DiskM (w6.alloc (.cells (smcells 0 false none 0 0) 44)) bd m' K5 ∧ Quiet m' 40 R ∧ Soft m' (0 + Xs.length) from ⟨m', hd.1.more b7, hd.2⟩)
        obtain ⟨l1, k1, f1⟩ := Blk.new w6 (smcells 0 false none 0 0) 44
        clear hok d6 b7 B6 D6h
        go_upto_region 13 with (fail)
        clear l1 k1 f1
        generalize w6.alloc (.cells (smcells 0 false none 0 0) 44) = W13 at *
        obtain ⟨m13, Dd, Q13, T13⟩ := d13.out
        have hfits := hid SOh.out.fits
        have he1h := hid (show wrap64 (ep + 1) = ep + 1 from IntWalk.wrap64_in _ ⟨by have := SOh.out.fits.2.2.1; have h9 : 0 ≤ ep := this; omega, by have := SOh.out.fits.2.2.2.1; have h9 : ep ≤ 4294967295 := this; omega⟩)
        have hs1h := hid (show wrap64 (sq + 1) = sq + 1 from IntWalk.wrap64_in _ ⟨by have := SOh.out.fits.2.2.2.2.1; have h9 : 0 ≤ sq := this; omega, by have := SOh.out.fits.2.2.2.2.2.1; have h9 : sq ≤ 4294967295 := this; omega⟩)
        have KB2 := hid (sbatch_any m13 bd K5 W13 Dd Q13 T13 3 30 (ep + 1) sq (by omega) (by omega) ⟨ep, sq, 0⟩ nx la n f (fun _ => false) Ph.out hcn.out)
        clear Dd Q13 T13 d13
        have he1 := he1h.out
        go_wp2_with fail
        clear he1
        refine KB2.out.mono ?_
        rintro e w14 ⟨d14, S14, hres⟩
        obtain rfl : e = .returned (.tuple #[smval 0 false none 0 0, .bool false, .int .i64 0]) := by
          rcases hres with ⟨h, _⟩ | ⟨_, h⟩
          · exfalso
            have := congrArg Stp.e h.1
            dsimp only at this
            omega
          · exact h
        have b15 : Below w14.heap.size w14 (w14.alloc (.cells (smcells 0 false none 0 0) 44)) := below_al1 _ _
        have D15 := hid (below2 (D13.out.trans (S14.below (B := w.heap.size) D13.out.size (fun k hk => by have := hKl.out _ hk; have := hsz4.out; omega))) b15 (Nat.le_trans D13.out.size S14.size))
        obtain ⟨m15, Dd, Q15, T15⟩ := d14
        have KB3 := hid (sbatch_any m15 bd K5 _ (Dd.more b15) Q15 T15 3 30 ep (sq + 1) (by omega) (by omega) ⟨ep, sq, 0⟩ nx la n f (fun _ => false) Ph.out hcn.out)
        obtain ⟨l1, k1, f1⟩ := Blk.new w14 (smcells 0 false none 0 0) 44
        clear KB2 hres S14 Dd Q15 T15 b15 D13
        have hs1 := hs1h.out
        go_wp2_with fail
        clear hs1
        refine KB3.out.mono ?_
        rintro e w16 ⟨d16, S16, hres⟩
        obtain rfl : e = .returned (.tuple #[smval 0 false none 0 0, .bool false, .int .i64 0]) := by
          rcases hres with ⟨h, _⟩ | ⟨_, h⟩
          · exfalso
            have := congrArg Stp.s h.1
            dsimp only at this
            omega
          · exact h
        have b17 : Below w16.heap.size w16 (w16.alloc (.cells (smcells 0 false none 0 0) 44)) := below_al1 _ _
        have D17 := hid (below2 (D15.out.trans (S16.below (B := w.heap.size) D15.out.size (fun k hk => by have := hKl.out _ hk; have := hsz4.out; omega))) b17 (Nat.le_trans D15.out.size S16.size))
        have d17 := hid (d16.elim fun m' hd => show ∃ m', DiskM (w16.alloc (.cells (smcells 0 false none 0 0) 44)) bd m' K5 ∧ Quiet m' 40 R ∧ Soft m' (0 + Xs.length) from ⟨m', hd.1.more b17, hd.2⟩)
        clear l1 k1 f1
        obtain ⟨l1, k1, f1⟩ := Blk.new w16 (smcells 0 false none 0 0) 44
        clear KB3 hres S16 d16 b17 D15
        go_wp2_with fail
        clear l1 k1 f1
        generalize w16.alloc (.cells (smcells 0 false none 0 0) 44) = W17 at *
        have hX1 := hid (show 1 ≤ Xs.length ∧ Xs.length ≤ 21 ∧ (Xs.length : Int) ≤ 21 from by have := hXlh.out; have := hXnh.out; omega)
        go_loopw [25] (fun i wr => ∃ j : Nat, 1 ≤ j ∧ j ≤ Xs.length ∧ i = .int .i64 (j : Int) ∧ (∃ m', DiskM wr bd m' K5 ∧ Quiet m' 40 R ∧ Soft m' (0 + Xs.length)) ∧ Below w.heap.size w wr) (fun i _ => Xs.length - (intOf i).toNat)
        case atStart => exact ⟨1, Nat.le_refl _, hX1.out.1, rfl, d17.out, D17.out⟩
        case round =>
          obtain ⟨j, hj1, hj2, rfl, ⟨m', Dd, Qd, Td⟩, hbw⟩ := hrel
          clear d17 D17
          by_cases hlt : j < Xs.length
          · have hlt' : (j : Int) < (Xs.length : Int) := by omega
            obtain ⟨k, hkn, hk1, hkj⟩ := cntW_inv f n j hj1 (by have := hXlh.out; omega)
            have hb := (bCk_zero SOh.out.good).2.2.2 k hkn
            obtain ⟨hfl, hfi, ND⟩ := sec_of HLh.out (f k).i _ hb.2.1 hb.2.2 (SOh.out.nodes k hkn hk1)
            rw [← Sth.out.node k hkn hk1, show (3 : Int) + ((cntW f k : Int) + 1) = 3 + (j : Int) by omega] at ND
            have hjwh := hid (wrap_small (3 + (j : Int)) (by omega) (by have := hX1.out.2.1; omega))
            have KL := hid (sload_good m' bd (3 + (j : Int)) (wf_small _ (by omega) (by have := hX1.out.2.1; omega)) K5 wr Dd Qd (by have := hX1.out.2.1; omega) _ _ _ ND)
            have HLw := hid HLh.out
            have QT := hid (And.intro Qd.after Td.after)
            generalize hidd : (f k).i = idd at *
            generalize hfx : fxN L idd = fx at *
            have hfih := hid hfi
            have hflh := hid hfl
            have hbwh := hid hbw
            have hlth := hid (And.intro hlt hj1)
            clear hb ND Dd Qd Td hkn hk1 hkj hfi hfl hbw hlt hj1 hj2 hidd
            have hjw := hjwh.out
            go_wp2_with fail
            clear hjw
            refine KL.out.mono ?_
            rintro e w18 ⟨x, rfl, hxi, hxt, hxs, D18, S18⟩
            have b19 : Below w18.heap.size w18 (w18.alloc (.cells (itT.cells x).toArray 58)) := below_al1 _ _
            have BI := Blk.new w18 (itT.cells x).toArray 58
            have D19 := hid (below2 (hbwh.out.trans (S18.below (B := w.heap.size) hbwh.out.size (fun k hk => by have := hKl.out _ hk; have := hsz4.out; omega))) b19 (Nat.le_trans hbwh.out.size S18.size))
            have HL19 := hid (HLw.out.more D19.out)
            have hx19 := hid (hxt.more b19)
            have Dd := hid (D18.more b19)
            unfold itT at BI D19 HL19 hx19 Dd
            dsimp only at BI D19 HL19 hx19 Dd
            have hxsh := hid hxs
            rw [hxi] at BI D19 HL19 hx19 Dd
            simp only [ItS.v, hxi]
            generalize hW19 : w18.alloc (.cells #[.int .i64 idd, .bool x.nd.lf, .slice x.nd.p x.nd.n x.nd.cap, .int .i64 x.nd.nx, .int .i64 (x.nd.k 0), .int .i64 (x.nd.k 1), .int .i64 (x.nd.k 2), .int .i64 (x.nd.k 3), .int .i64 (x.nd.c 0), .int .i64 (x.nd.c 1), .int .i64 (x.nd.c 2), .int .i64 (x.nd.c 3)] 58) = W19 at *
            have BIh := hid BI
            have KF := hid (find19_any L lp lc HL19.out.h1 HL19.out.h2 idd W19 HL19.out.row)
            obtain ⟨l3, k3, f3⟩ := BI
            clear KL hxi hxt hxs D18 S18 b19 HLw
            go_wp2_with fail
            refine KF.out.mono ?_
            rintro e W20 ⟨rfl, hb20⟩
            rw [hfih.out]
            have BI20 := hid (BIh.out.more hb20)
            have HL20 := HL19.out.more hb20
            have D20 := hid (below2 D19.out hb20 D19.out.size)
            have Dd20 := hid (Dd.out.more hb20)
            have hx20 := hx19.out.more hb20
            obtain ⟨bl, ol, hql, rl⟩ := RowP.row HL20.row (by have := hflh.out; omega)
            have hbl := rl.lt
            have z1 : W20.cell? ⟨bl, ol + fx * 12 + 1, none⟩ = some (.bool (itA L fx).nd.lf) := rl.at1 hflh.out rfl
            have z2 : W20.cell? ⟨bl, ol + fx * 12 + 2, none⟩ = some (.slice (itA L fx).nd.p (itA L fx).nd.n (itA L fx).nd.cap) := rl.cell fx hflh.out 2 _ rfl
            have z3 : W20.cell? ⟨bl, ol + fx * 12 + 3, none⟩ = some (.int .i64 (itA L fx).nd.nx) := rl.cell fx hflh.out 3 _ rfl
            have z4 : W20.cell? ⟨bl, ol + fx * 12 + 4, none⟩ = some (.int .i64 ((itA L fx).nd.k 0)) := rl.cell fx hflh.out 4 _ rfl
            have z5 : W20.cell? ⟨bl, ol + fx * 12 + 5, none⟩ = some (.int .i64 ((itA L fx).nd.k 1)) := rl.cell fx hflh.out 5 _ rfl
            have z6 : W20.cell? ⟨bl, ol + fx * 12 + 6, none⟩ = some (.int .i64 ((itA L fx).nd.k 2)) := rl.cell fx hflh.out 6 _ rfl
            have z7 : W20.cell? ⟨bl, ol + fx * 12 + 7, none⟩ = some (.int .i64 ((itA L fx).nd.k 3)) := rl.cell fx hflh.out 7 _ rfl
            have z8 : W20.cell? ⟨bl, ol + fx * 12 + 8, none⟩ = some (.int .i64 ((itA L fx).nd.c 0)) := rl.cell fx hflh.out 8 _ rfl
            have z9 : W20.cell? ⟨bl, ol + fx * 12 + 9, none⟩ = some (.int .i64 ((itA L fx).nd.c 1)) := rl.cell fx hflh.out 9 _ rfl
            have z10 : W20.cell? ⟨bl, ol + fx * 12 + 10, none⟩ = some (.int .i64 ((itA L fx).nd.c 2)) := rl.cell fx hflh.out 10 _ rfl
            have z11 : W20.cell? ⟨bl, ol + fx * 12 + 11, none⟩ = some (.int .i64 ((itA L fx).nd.c 3)) := rl.cell fx hflh.out 11 _ rfl
            have hyd := HL20.nd _ (show itA L fx ∈ L from atR_mem (T := itT) L fx hflh.out)
            have hfl' : (fx : Int) < (L.length : Int) := by have := hflh.out; omega
            have hf0 : decide ((fx : Int) < 0) = false := decide_eq_false (by omega)
            generalize (itA L fx).nd = y at *
            have KSm := hid (fun W (hb : Below W20.heap.size W20 W) => by
              have := refSame_any x.nd.lf y.lf x.nd.p y.p x.nd.n y.n x.nd.cap y.cap x.nd.f y.f x.nd.nx y.nx x.nd.k y.k x.nd.c y.c hx20.h1 hx20.h2 hyd.h1 hyd.h2 W (hx20.row.more hb) (hyd.row.more hb)
              rw [show nSame x.nd.lf y.lf x.nd.n y.n x.nd.f y.f x.nd.nx y.nx x.nd.k y.k x.nd.c y.c = true from hxsh.out] at this
              exact this)
            clear KF hb20 HL19 HL20 D19 Dd hx19 hx20 rl hyd hxsh BIh l3 k3 f3 hfih hW19
            subst hql
            go_wp2_with fail
            have q0 := fun u : Later W20 => u.blk BI20.out
            have q1 := fun u : Later W20 => (u.cell bl (ol + fx * 12 + 1) hbl).trans z1
            have q2 := fun u : Later W20 => (u.cell bl (ol + fx * 12 + 2) hbl).trans z2
            have q3 := fun u : Later W20 => (u.cell bl (ol + fx * 12 + 3) hbl).trans z3
            have q4 := fun u : Later W20 => (u.cell bl (ol + fx * 12 + 4) hbl).trans z4
            have q5 := fun u : Later W20 => (u.cell bl (ol + fx * 12 + 5) hbl).trans z5
            have q6 := fun u : Later W20 => (u.cell bl (ol + fx * 12 + 6) hbl).trans z6
            have q7 := fun u : Later W20 => (u.cell bl (ol + fx * 12 + 7) hbl).trans z7
            have q8 := fun u : Later W20 => (u.cell bl (ol + fx * 12 + 8) hbl).trans z8
            have q9 := fun u : Later W20 => (u.cell bl (ol + fx * 12 + 9) hbl).trans z9
            have q10 := fun u : Later W20 => (u.cell bl (ol + fx * 12 + 10) hbl).trans z10
            have q11 := fun u : Later W20 => (u.cell bl (ol + fx * 12 + 11) hbl).trans z11
            clear z1 z2 z3 z4 z5 z6 z7 z8 z9 z10 z11
            refine wp_region_late 16 (by kernel_rfl) (by kernel_rfl) ?_
            simp only [List.take_succ_cons, List.take_zero, List.drop_succ_cons, List.drop_zero]
            iterate 16 (go_big_quiet_step ((go_at_call 22; with_reducible exact late_call (KSm.out _ (Later.h _)))))
            refine wpQuiet_nil ?_
            intro w21 h21'
            have h21 := late_out h21'
            have D21 := hid (below2 D20.out h21 D20.out.size)
            have d21 := hid (show ∃ m', DiskM w21 bd m' K5 ∧ Quiet m' 40 R ∧ Soft m' (0 + Xs.length) from ⟨m'.after, Dd20.out.more h21, QT.out.1, QT.out.2⟩)
            clear h21 h21' q0 q1 q2 q3 q4 q5 q6 q7 q8 q9 q10 q11 KSm BI20 D20 Dd20
            go_wp2_with fail
            go_roundw
            case rel => exact ⟨j + 1, by have := hlth.out; omega, by have := hlth.out; omega, by simp, d21.out, D21.out⟩
            case measure => have := hlth.out; simp [intOf]; omega
          · obtain rfl : j = Xs.length := by omega
            have hlt' : ¬ (Xs.length : Int) < (Xs.length : Int) := by omega
            obtain ⟨hk, u9, hkl, hu1, hu2⟩ := place64 hurt Xs.length hX1.out.1 (by have := hX1.out.2.1; omega)
            have hu1h := hid hu1
            have hu2h := hid hu2
            clear hu1 hu2
            have hXne : ((Xs.length : Int) == 0) = false := by rw [beq_eq_false_iff_ne]; have := hX1.out.1; omega
            have hXnil : ¬ Xs = [] := by intro h; have := hX1.out.1; rw [h] at this; exact absurd this (by decide)
            have b22 : Below wr.heap.size wr (wr.alloc (.cells (madeCells #[.int .u8 0] 256) 5)) := below_al1 _ _
            have hT : (⟨some ⟨wr.heap.size, 0, none⟩, 256, zerosN 256⟩ : OcS).there (wr.alloc (.cells (madeCells #[.int .u8 0] 256) 5)) := ⟨made_octs 5 256 wr, by rw [zerosN_len]; exact Nat.le_refl _, by show 256 ≤ maxLen; unfold maxLen; omega⟩
            have hkw : (Lit.int .i64 (3 + (hk : Int))).wf = true := wf_small _ (by omega) (by have := hX1.out.2.1; omega)
            have KW9 := hid (wr_done m' bd (3 + (hk : Int)) K5 _ (Dd.more b22) Qd Td (by have := hX1.out.2.1; omega) hkw (by omega) (by have := hX1.out.2.1; omega) ⟨some ⟨wr.heap.size, 0, none⟩, 256, zerosN 256⟩ hT (fun b' o e h => by cases e; have := Dd.klt _ h; omega) (zerosN_len 256))
            rw [show (⟨some ⟨wr.heap.size, 0, none⟩, 256, zerosN 256⟩ : OcS).l.length = 256 from zerosN_len 256] at KW9
            dsimp only at KW9
            have mkz : ∀ w, (Instr.makeSlice 35 (.int .i64 256) (.int .i64 256)).run Try.prog w = .ok (.slice (some ⟨w.heap.size, 0, none⟩) 256 256) (w.alloc (.cells (madeCells #[.int .u8 0] 256) 5)) := fun w => run_zeros 256 (by omega) w
            have hkwh := hid (wrap_small (3 + (hk : Int)) (by omega) (by have := hX1.out.2.1; omega))
            have D22 := hid (below2 hbw b22 hbw.size)
            have hwz := hid b22.size
            have hbwh := hid hbw
            have hklh := hid hkl
            clear Dd Qd Td hT b22 hbw hlt hj1 hj2 hkw hkl
            have hu1 := hu1h.out
            have hu2 := hu2h.out
            have hkw1 := hkwh.out
            go_wp2_with fail
            clear hu1 hu2 hkw1 hu1h hu2h hXnil
            refine KW9.out.mono ?_
            rintro e w23 ⟨rfl, m6, K6, D6, S6, hK6, Q6, T6⟩
            have KB4 : Calls Try.prog 18 #[.pointer (some ⟨bd, 0, none⟩), .int .i64 3, .int .i64 30, .int .i64 ep, .int .i64 sq] w23 fun e w' => e = .returned (.tuple #[smval 0 false none 0 0, .bool false, .int .i64 0]) ∧ Sole K6 w23 w' := by
              by_cases h0 : hk = 0
              · subst h0
                have hcur : (m6.cur 3).l = zerosN 256 := by rw [Q6.cur 3]; exact if_pos (by omega)
                refine (sbatch_bad m6 bd 3 (by decide) K6 w23 D6 Q6.trb (by rw [Q6.len]; omega) (by rw [hcur, zerosN_len]; omega) (by rw [hcur]; exact goodB_zeros) 30 ep sq).mono ?_
                rintro e w' ⟨rfl, _, S⟩
                exact ⟨rfl, S⟩
              · refine (sbatch_any m6 bd K6 w23 D6 Q6 T6 3 30 ep sq (by omega) (by omega) ⟨ep, sq, 0⟩ nx la n f _ (part_hurt Sth.out SOh.out HLh.out hk (by omega)) hcn.out).mono ?_
                rintro e w' ⟨_, S, hres⟩
                refine ⟨?_, S⟩
                rcases hres with ⟨h, _⟩ | ⟨_, h⟩
                · exfalso
                  have := h.2.2 hk (by omega) (by have := hklh.out; have := hXlh.out; omega)
                  simp at this
                · exact h
            have hK6l := hid (fun k (h : K6 k) => show w.heap.size ≤ k from (hK6 k h).elim (fun h => by have := hKl.out _ h; have := hsz4.out; omega) (fun h => by have := D22.out.size; omega))
            have D23 := hid (D22.out.trans (S6.below (B := w.heap.size) D22.out.size (fun k h => by have := hKl.out _ h; have := hsz4.out; omega)))
            replace KB4 := hid KB4
            clear KW9 D6 S6 hK6 Q6 T6
            go_wp2_with fail
            refine KB4.out.mono ?_
            rintro e w24 ⟨rfl, S24⟩
            have D24 := D23.out.trans (S24.below (B := w.heap.size) D23.out.size hK6l.out)
            have D25 := hid (below2 D24 (below_al1 w24 (.cells (smcells 0 false none 0 0) 44)) D24.size)
            obtain ⟨l3, k3, f3⟩ := Blk.new w24 (smcells 0 false none 0 0) 44
            clear KB4 S24 D24
            go_wp2_with fail
            go_ret
            exact ⟨rfl, D25.out⟩
    · have hC1 : (C == 0) = false := by rw [beq_eq_false_iff_ne]; exact hC
      have hCh := hid hC
      clear hS
      go_wp2_with fail
      refine KN.out.mono ?_
      rintro e w4 ⟨Ld, rfl, _, _, hb4⟩
      have D4 := hid (below2 D3.out hb4 D3.out.size)
      have hC1 : (C == 0) = false := by rw [beq_eq_false_iff_ne]; exact hC
      clear KN hb4
      go_wp2_with fail
      go_ret
      exact ⟨by first | rfl | (simp; exact hCh.out), D4.out⟩
end Go.Proofs.Ytpgibngohbohdaa
