/-
  Package seglog: Batch of any disk that has no trouble, as a function of what stands there.
-/
import Derived.Test.YtcklmemnjchdcaaRsE

namespace Go.Proofs.Ytcklmemnjchdcaa
open Go.RowKit Go.Maps
set_option linter.unusedVariables false
set_option linter.unusedSimpArgs false

/-- Are the sectors of the first entries their nodes'? -/
def wrGood (R : Int → List UInt8) (z ep sq : Int) (f : Nat → En) : Nat → Bool
  | 0 => true
  | k + 1 => wrGood R z ep sq f k && (if (f k).k = 1 then nodeG (R (z + ((cntW f k : Int) + 1))) && (nodeI (R (z + ((cntW f k : Int) + 1))) == (f k).i && isB (R (z + ((cntW f k : Int) + 1))) 5 ⟨ep, sq, (cntW f k : Int) + 1⟩) else true)
theorem wrGood_le (R : Int → List UInt8) (z ep sq : Int) (f : Nat → En) {k : Nat} : ∀ {n : Nat}, k ≤ n → wrGood R z ep sq f n = true → wrGood R z ep sq f k = true
  | 0, h, hg => by obtain rfl : k = 0 := by omega
                   exact hg
  | n + 1, h, hg => by
    by_cases e : k = n + 1
    · rw [e]; exact hg
    · exact wrGood_le R z ep sq f (by omega) ((Bool.and_eq_true _ _ ▸ hg : _ ∧ _).1)
/-- Does a batch stand there, in so many sectors? -/
def batG (R : Int → List UInt8) (z left ep sq : Int) : Bool :=
  sumG (R z) ⟨ep, sq, 0⟩ && (decide (1 + (cntW (smF (R z)) (smN (R z)) : Int) ≤ left) && wrGood R z ep sq (smF (R z)) (smN (R z)))
theorem sum_bck {l : List UInt8} {t : Stp} (h : sumG l t = true) : bCk (smNx l) (smN l) (smF l) = 0 := (read_back _ ((Bool.and_eq_true _ _ ▸ h : _ ∧ _).2)).1
theorem hid2 {p : Prop} (h : p) : Hid p := hid h
/-- What Batch answers. -/
def BatPostF (w w' : World) (e : Ending) (b : Nat) (K : Nat → Prop) (N : Nat) (R : Int → List UInt8) (c0 : Nat) (ok : Prop) (nx : Int) (la : Bool) (n : Nat) (f : Nat → En) : Prop :=
  (∃ m', DiskM w' b m' K ∧ Quiet m' N R ∧ Soft m' c0) ∧ Sole K w w' ∧ ((ok ∧ ∃ q c, e = .returned (.tuple #[smval nx la q n c, .bool true, .int .i64 0]) ∧ n ≤ c ∧ c ≤ maxLen ∧ RowP w' q 2 n (fun i => ecells (f i)) ∧ ∀ b' o, q = some ⟨b', o, none⟩ → n ≠ 0 → w.heap.size < b') ∨ (¬ ok ∧ e = .returned (.tuple #[smval 0 false none 0 0, .bool false, .int .i64 0])))

set_option maxRecDepth 100000 in
set_option maxHeartbeats 4000000 in
theorem sbatch_fun (m : DM) (b : Nat) (K : Nat → Prop) (w : World) (D : DiskM w b m K) {N : Nat} {R : Int → List UInt8} (Qm : Quiet m N R) {c0 : Nat} (Sm : Soft m c0) (hR : ∀ x, 0 ≤ x → x < (N : Int) → (R x).length = 256) (z left ep sq : Int) (hz0 : 0 ≤ z) (hz1 : z ≤ 1000) (hN : z + left ≤ (N : Int)) (hzN : z < (N : Int)) :
    Calls Try.prog 47 #[.pointer (some ⟨b, 0, none⟩), .int .i64 z, .int .i64 left, .int .i64 ep, .int .i64 sq] w fun e w' => BatPostF w w' e b K N R c0 (batG R z left ep sq = true) (smNx (R z)) (smLa (R z)) (smN (R z)) (smF (R z)) := by
  obtain ⟨W0, hW0⟩ : ∃ W0, (w.alloc (.cells s0c 83)).alloc (.cells s0c 83) = W0 := ⟨_, rfl⟩
  have hb0 : Below w.heap.size w W0 := by rw [← hW0]; exact (below_al1 _ _).trans ((below_al1 _ _).mono (by simp))
  have B10 : Blk W0 w.heap.size s0c := by rw [← hW0]; exact (Blk.new w _ _).alloc _
  have B13 : Blk W0 (w.heap.size + 1) s0c := by
    rw [← hW0]
    have := Blk.new (w.alloc (.cells s0c 83)) s0c 83
    simpa using this
  have hs0 : W0.heap.size = w.heap.size + 2 := by rw [← hW0]; simp
  have hzw : (Lit.int .i64 z).wf = true := by
    rw [show z = wrap64 z by unfold wrap64; omega]
    exact wrap64_wf _
  obtain ⟨W1, hW1⟩ : ∃ W1, setAll W0 (w.heap.size + 1) 0 [.int .i64 0, .bool false, .slice none 0 0] = W1 := ⟨_, rfl⟩
  have S01 : Sole (fun k => k = w.heap.size + 1) W0 W1 := by rw [← hW1]; exact sole_setAll (S := fun k => k = w.heap.size + 1) rfl _ 0 W0
  have hs1 := S01.size
  have B10' : Blk W1 w.heap.size s0c := B10.sole S01 (by omega)
  have B13' : Blk W1 (w.heap.size + 1) s0c := by
    rw [← hW1]
    exact Blk.fill [.int .i64 0, .bool false, .slice none 0 0] 0 B13 (by simp)
  have D1 := (D.more hb0).kept S01 (fun k hk e => by have := D.klt k hk; omega)
  have KR := hid (read_any m b z hzw K W1 D1 Qm.trb)
  have hrh := hid (show 0 ≤ z ∧ z < (m.Ls.length : Int) from by rw [Qm.len]; omega)
  have hcur := hid (Qm.cur z)
  have hsl := hid (hR z hz0 hzN)
  have hbG := hid (show batG R z left ep sq = (sumG (R z) ⟨ep, sq, 0⟩ && (decide (1 + (cntW (smF (R z)) (smN (R z)) : Int) ≤ left) && wrGood R z ep sq (smF (R z)) (smN (R z)))) from rfl)
  have hRh := hid hR
  have KSF := fun a cap h1 h2 w O => ssum_fun (R z) (by rw [hR z hz0 hzN]; omega) a cap ⟨ep, sq, 0⟩ h1 h2 w O
  have fold : (∀ w1 e w', SumF (R z) ⟨ep, sq, 0⟩ w1 e w' → (sumG (R z) ⟨ep, sq, 0⟩ = true ∧ ∃ q c, e = .returned (.tuple #[smval (smNx (R z)) (smLa (R z)) q (smN (R z)) c, .bool true]) ∧ smN (R z) ≤ c ∧ c ≤ maxLen ∧ RowP w' q 2 (smN (R z)) (fun i => ecells (smF (R z) i)) ∧ (∀ b o, q = some ⟨b, o, none⟩ → smN (R z) ≠ 0 → w1.heap.size + 1 < b) ∧ Below w1.heap.size w1 w') ∨ (sumG (R z) ⟨ep, sq, 0⟩ = false ∧ e = .returned (.tuple #[summ0, .bool false]) ∧ Below w1.heap.size w1 w')) := (fun w1 e w' h => h.2.elim (fun ⟨g, q, c, h1, h2, h3, h4, h5⟩ => .inl ⟨g, q, c, h1, h2, h3, h4, h5, h.1⟩) (fun ⟨g, h1⟩ => .inr ⟨g, h1, h.1⟩))
  obtain ⟨PS, hPS⟩ : ∃ P, P = SumF (R z) ⟨ep, sq, 0⟩ := ⟨_, rfl⟩
  rw [← hPS] at KSF fold
  clear hPS
  have hgood := hid (fun (h : sumG (R z) ⟨ep, sq, 0⟩ = true) => sum_bck h)
  generalize smNx (R z) = nx at *
  generalize smLa (R z) = la at *
  generalize smN (R z) = n at *
  generalize smF (R z) = f at *
  generalize batG R z left ep sq = bG at *
  generalize sumG (R z) ⟨ep, sq, 0⟩ = sG at *
  replace KSF := hid KSF
  replace fold := hid fold
  have Qh := hid Qm
  have Sh := hid Sm
  have D0 := hid ((Sole.made (S := K) hb0).trans' S01 (fun k hk e => absurd hk (by omega)))
  have hKs := hid (fun k (hk : K k) => D.klt k hk)
  have HB10 := hid B10'
  have HB13 := hid B13'
  have hs0h := hid (show w.heap.size + 2 ≤ W1.heap.size from by omega)
  have hNh := hid hN
  clear D D1 Qm Sm hR hb0 hs0 hzw hN S01 hs1
  simp only [setAll, Nat.zero_add, Nat.reduceAdd] at hW1
  obtain ⟨l0, k0, f0⟩ := B10
  obtain ⟨l1, k1, f1⟩ := B13
  go_enter Try.func47, Try.ntmps47
  go_upto_region 2 with (fail)
  try rw [hW1]
  clear l0 k0 f0 l1 k1 f1 hW1 hW0
  obtain ⟨l0, k0, f0⟩ := B10'
  obtain ⟨l1, k1, f1⟩ := B13'
  go_wp2_with fail
  refine KR.out.mono ?_
  rintro e w1 ⟨hin, _, D1, S1⟩
  obtain ⟨v, rfl, hN1⟩ := hin hrh.out
  rw [hcur.out] at hN1
  obtain ⟨y, rfl, hyl, hyt⟩ := newO_oc hN1 (by intro h; have := hsl.out; rw [h] at this; cases this)
  have hs1 := S1.size
  have H10 := HB10.out.sole S1 (fun h => by have := hKs.out _ h; omega)
  have H13 := HB13.out.sole S1 (fun h => by have := hKs.out _ h; omega)
  have SS := hid (D0.out.trans S1)
  have D1h := hid D1
  have hyl256 : y.l.length = 256 := by rw [hyl]; exact hsl.out
  have KS := KSF.out y.a y.cap (by rw [← hyl]; exact hyt.2.1) hyt.2.2 w1 (by rw [← hyl]; exact hyt.1)
  rw [← hyl, hyl256] at KS
  replace KS := hid KS
  have yh := hid hyt
  rw [hyl256]
  have H10h := hid H10
  have H13h := hid H13
  have hw1 := hid (show w.heap.size + 2 ≤ w1.heap.size from by have := hs0h.out; omega)
  clear KR HB10 HB13 hN1 D1 S1 D0 hyl hyt H10 hs1 hyl256 l0 k0 f0 l1 k1 f1 hcur hsl hrh H13 KSF
  go_wp2_with fail
  refine KS.out.mono ?_
  rintro e w2 hSP
  replace hSP := fold.out _ _ _ hSP
  have d1 : ∃ m', DiskM w1 b m' K ∧ Quiet m' N R ∧ Soft m' c0 := ⟨m.after, D1h.out, Qh.out.after, Sh.out.after⟩
  rcases hSP with ⟨ht, q, c, rfl, c1, c2, RQ, hq, hb2⟩ | ⟨ht, rfl, hb2⟩
  · subst ht
    have hn64 := hid (bCk_zero (hgood.out rfl))
    have hbG2 : Hid (bG = (decide (1 + (cntW f n : Int) ≤ left) && wrGood R z ep sq f n)) := hid (by rw [hbG.out]; rfl)
    clear hbG hgood fold
    have b3 : Below w2.heap.size w2 (w2.alloc (.cells (smcells nx la q n c) 83)) := below_al1 _ _
    have b13 := below2 hb2 b3 hb2.size
    have H13' := H13h.out.more b13
    have H10' := H10h.out.more b13
    have B16 := Blk.new w2 (smcells nx la q n c) 83
    have d3 := hid (d1.elim fun m' hd => show ∃ m', DiskM (w2.alloc (.cells (smcells nx la q n c) 83)) b m' K ∧ Quiet m' N R ∧ Soft m' c0 from ⟨m', hd.1.more b13, hd.2⟩)
    have S3 := hid (SS.out.trans (Sole.made (S := K) b13))
    have R3 := hid (RQ.more b3)
    have hqh := hid (fun b' o (e : q = some ⟨b', o, none⟩) (hn : n ≠ 0) => show w.heap.size + 1 < b' ∧ b' < w2.heap.size from by
      have h9 := hq b' o e hn
      have h8 := hw1.out
      rcases RQ with h | ⟨b9, o9, e9, h7⟩
      · exact absurd h hn
      · rw [e9] at e; cases e
        exact ⟨by omega, h7.lt⟩)
    have cc := hid (And.intro c1 c2)
    have hw2 := hid (show w.heap.size + 2 ≤ w2.heap.size from by have := hb2.size; have := hw1.out; omega)
    have hs3 : (w2.alloc (.cells (smcells nx la q n c) 83)).heap.size = w2.heap.size + 1 := by simp
    have KW := hid (bwritten_any nx la q n c f c1 c2 _ R3.out)
    have H10h' := hid H10'
    have H13h' := hid H13'
    have B16h := hid B16
    have hcl : cntW f n ≤ n := cntW_le f n
    have hn4 : n ≤ 64 := hn64.out.2.2.1
    have hcw : wrap64 (1 + (cntW f n : Int)) = 1 + (cntW f n : Int) := wrap_small _ (by omega) (by omega)
    clear KS d1 b3 b13 hb2 c1 c2 RQ hq
    generalize hW3 : w2.alloc (.cells (smcells nx la q n c) 83) = W3 at *
    obtain ⟨l0, k0, f0⟩ := H10'
    obtain ⟨l1, k1, f1⟩ := H13'
    obtain ⟨l2, k2, f2⟩ := B16
    go_wp2_with fail
    refine KW.out.mono ?_
    rintro e w4 ⟨rfl, hb4⟩
    have H10 := H10h'.out.more hb4
    have H13 := H13h'.out.more hb4
    have B16 := B16h.out.more hb4
    have d4 := hid (d3.out.elim fun m' hd => show ∃ m', DiskM w4 b m' K ∧ Quiet m' N R ∧ Soft m' c0 from ⟨m', hd.1.more hb4, hd.2⟩)
    have S4 := hid (S3.out.trans (Sole.made (S := K) hb4))
    have R4 := hid (R3.out.more hb4)
    have hs4 := hid (show w2.heap.size + 1 ≤ w4.heap.size from by have := hb4.size; omega)
    have H10q := hid H10
    have H13q := hid H13
    have B16q := hid B16
    clear KW hb4 d3 S3 R3 H10h' H13h' B16h hW3 l0 k0 f0 l1 k1 f1 l2 k2 f2 hs3
    obtain ⟨l0, k0, f0⟩ := H10
    obtain ⟨l1, k1, f1⟩ := H13
    obtain ⟨l2, k2, f2⟩ := B16
    by_cases hlf : 1 + (cntW f n : Int) ≤ left
    · have hlf1 : decide (1 + (cntW f n : Int) > left) = false := decide_eq_false (by omega)
      have hlfh := hid hlf
      have b5 : Below w4.heap.size w4 (w4.alloc (.cells #[.int .i64 ep, .int .i64 sq, .int .i64 0] 116)) := below_al1 _ _
      have B18 := Blk.new w4 #[.int .i64 ep, .int .i64 sq, .int .i64 0] 116
      have BA := hid (show BatAt w (w4.alloc (.cells #[.int .i64 ep, .int .i64 sq, .int .i64 0] 116)) b K N R c0 w2.heap.size w4.heap.size ep sq nx la q n c f ((cntW f 0 : Nat) : Int) from
        ⟨d4.out.elim fun m' hd => ⟨m', hd.1.more b5, hd.2⟩, S4.out.trans (Sole.made b5), H10q.out.more b5, H13q.out.more b5, B16q.out.more b5, B18, R4.out.more b5, hKs.out, by have := hw2.out; have := hs4.out; omega, fun b' o e hn => by have := hqh.out b' o e hn; have := hs4.out; omega⟩)
      have hlf2 : (1 : Int) + (cntW f n : Int) ≤ left := hlf
      clear hlf b5 B18 d4 S4 R4 hqh
      go_wp2_with fail
      generalize w4.alloc (.cells #[.int .i64 ep, .int .i64 sq, .int .i64 0] 116) = W5 at *
      clear l0 k0 f0 l1 k1 f1 l2 k2 f2 H10q H13q B16q hcw
      generalize w4.heap.size = B18 at *
      generalize w2.heap.size = B16 at *
      go_loopw [60] (fun i wr => ∃ k : Nat, k ≤ n ∧ i = .int .i64 (k : Int) ∧ BatAt w wr b K N R c0 B16 B18 ep sq nx la q n c f ((cntW f k : Nat) : Int) ∧ wrGood R z ep sq f k = true) (fun i _ => n - (intOf i).toNat)
      case atStart => exact ⟨0, Nat.zero_le _, rfl, BA.out, rfl⟩
      case round =>
        obtain ⟨k, hk, rfl, BA1, hok⟩ := hrel
        have hkl := BA1.kl
        have hs9 := BA1.s.size
        by_cases hlt : k < n
        · have hlt' : (k : Int) < (n : Int) := by omega
          obtain ⟨be, oe, hqe, re⟩ := RowP.row BA1.row (by omega)
          have z0 : wr.cell? ⟨be, oe + k * 2, none⟩ = some (.int .i64 (f k).k) := re.at0 hlt rfl
          have z1 : wr.cell? ⟨be, oe + k * 2 + 1, none⟩ = some (.int .i64 (f k).i) := re.at1 hlt rfl
          subst hqe
          have hlth := hid hlt
          have b6 : Below wr.heap.size wr (wr.alloc (.cells #[.int .i64 (f k).k, .int .i64 (f k).i] 70)) := below_al1 _ _
          have BE := Blk.new wr #[.int .i64 (f k).k, .int .i64 (f k).i] 70
          have BA2 := hid (BA1.more b6)
          have hcs := cntW_succ f k
          have hcl2 := cntW_le f k
          have hcn := cntW_mono f (show k + 1 ≤ n by omega)
          by_cases hk1 : (f k).k = 1
          · rw [if_pos hk1] at hcs
            have BX := (BA1.more b6).b18
            have BA3 := hid ((BA1.more b6).on ((cntW f k : Int) + 1))
            have hB18 := (BA1.more b6).lo
            have hlt18 := BX.lt
            have hB18b : B18 < wr.heap.size := BA1.b18.lt
            have BE3 := hid (BE.other ⟨B18, 2, none⟩ (show B18 ≠ wr.heap.size by omega) (.int .i64 ((cntW f k : Int) + 1)))
            obtain ⟨m3, D3, Q3, T3⟩ := BA3.out.d
            obtain ⟨hr1, hzw, ha1, ha2⟩ := bat_nums z (cntW f k) (cntW f n) N hz0 hz1 (by rw [← hcs]; exact hcn) (Nat.le_trans hcl hn4) (by have := hNh.out; have := hlfh.out; omega)
            have KRd := hid (read_any m3 b (z + ((cntW f k : Int) + 1)) hzw K _ D3 Q3.trb)
            have hrr := hid (show 0 ≤ z + ((cntW f k : Int) + 1) ∧ z + ((cntW f k : Int) + 1) < (m3.Ls.length : Int) from by rw [Q3.len]; exact hr1)
            have hcc := hid (Q3.cur (z + ((cntW f k : Int) + 1)))
            have QT := hid (And.intro Q3.after T3.after)
            have hlen8 := hid (hRh.out (z + ((cntW f k : Int) + 1)) hr1.1 hr1.2)
            have hwg := hid (show wrGood R z ep sq f (k + 1) = (wrGood R z ep sq f k && (nodeG (R (z + ((cntW f k : Int) + 1))) && (nodeI (R (z + ((cntW f k : Int) + 1))) == (f k).i && isB (R (z + ((cntW f k : Int) + 1))) 5 ⟨ep, sq, (cntW f k : Int) + 1⟩))) from by show (wrGood R z ep sq f k && (if (f k).k = 1 then _ else true)) = _; rw [if_pos hk1])
            have hokh := hid hok
            have hcsh := hid hcs
            clear hcs hcn hcl2 hr1
            rw [hk1] at BE BE3 BA2 BA3 KRd z0 BX
            generalize hW6 : wr.alloc (.cells #[.int .i64 1, .int .i64 (f k).i] 70) = W6 at *
            have BA3b := BA3.out.b18
            have h13b := BA3.out.b13
            have h10b := BA3.out.b10
            have h16b := BA3.out.b16
            clear re hk1 hok D3 Q3 T3 hzw b6 hkl hlt
            obtain ⟨l3, k3, f3⟩ := BE
            obtain ⟨l4, k4, f4⟩ := BX
            go_upto_region 14 with (fail)
            have hwK := hid (fun (h : K wr.heap.size) => show False from by have := BA3.out.kl _ h; omega)
            have hcle := hid (show cntW f k + 1 ≤ cntW f n from by rw [← hcsh.out]; exact cntW_mono f (by have := hlth.out; omega))
            generalize W6.setCell ⟨B18, 2, none⟩ (.int .i64 ((cntW f k : Int) + 1)) = W7 at *
            clear l3 k3 f3 l4 k4 f4 h13b h10b h16b hW6 z0 z1
            obtain ⟨l4, k4, f4⟩ := BA3b
            go_wp2_with fail
            refine KRd.out.mono ?_
            rintro e w8 ⟨hin, _, D8, S8⟩
            obtain ⟨v8, rfl, hN8⟩ := hin hrr.out
            rw [hcc.out] at hN8
            have hl256 := hlen8.out
            obtain ⟨y8, rfl, hy8, hy8t⟩ := newO_oc hN8 (by intro h; rw [h] at hl256; cases hl256)
            have BA8 := hid (BA3.out.read S8 ⟨m3.after, D8, QT.out.1, QT.out.2⟩)
            have BE8 := hid (BE3.out.sole S8 (fun h => hwK.out h))
            have hy8h := hid hy8t
            have hy8e := hid hy8
            clear KRd hin hN8 D8 S8 BA3 BE3 hrr hcc QT l4 k4 f4 ha1 ha2
            have KN0 := snode_fun (R (z + ((cntW f k : Int) + 1))) (by rw [hl256]; omega) y8.a y8.cap (by rw [← hy8]; exact hy8t.2.1) hy8t.2.2 w8 (by rw [← hy8]; exact hy8t.1)
            rw [← hy8] at KN0
            rw [← hy8] at hwg
            have KN := hid KN0
            have hnoG : Hid (wrGood R z ep sq f (k + 1) = false → ¬ bG = true) := hid (fun h hb => by
              rw [hbG2.out, Bool.and_eq_true] at hb
              have := wrGood_le R z ep sq f (show k + 1 ≤ n by have := hlth.out; omega) hb.2
              rw [h] at this; cases this)
            clear hy8t hy8 hl256 hlen8 KN0
            cases hng : nodeG y8.l with
            | false =>
              have hfin := hid (show ¬ bG = true from hnoG.out (by rw [hwg.out, hng]; simp))
              rw [hng] at KN
              go_wp2_with fail
              refine KN.out.mono ?_
              rintro e w9 ⟨hb9, hN9⟩
              obtain rfl := (hN9.resolve_left (fun h => by cases h.1)).2
              have b10 : Below w9.heap.size w9 (w9.alloc (.cells item0c.toArray 80)) := below_al1 _ _
              have BA10 := (BA8.out.more hb9).more b10
              have B23 := Blk.new w9 item0c.toArray 80
              have F := hid (bat_none (b := b) (N := N) (R := R) (c0 := c0) BA10.kl BA10.b10 BA10.s BA10.d [.int .i64 0, .bool false, .slice none 0 0] rfl)
              obtain ⟨l3, k3, f3⟩ := BA10.b13
              obtain ⟨l4, k4, f4⟩ := BA10.b10
              obtain ⟨l5, k5, f5⟩ := B23
              clear KN BA10 hb9 b10 BA8 BE8 hN9 hwg hnoG hng
              go_wp2_with fail
              simp only [setAll, Nat.zero_add, Nat.reduceAdd] at F
              clear l3 k3 f3 l4 k4 f4 l5 k5 f5
              generalize World.setCell _ _ _ = W9 at *
              obtain ⟨l9, k9, f9⟩ := F.out.1
              refine bodyPost_ret (v := .tuple #[smval 0 false none 0 0, .bool false, .int .i64 0]) (by simp [results, Try.results47, go_sem, k9, fillC]) rfl ⟨F.out.2.2.1, F.out.2.1, .inr ⟨hfin.out, rfl⟩⟩
            | true =>
              rw [hng] at KN
              go_wp2_with fail
              refine KN.out.mono ?_
              rintro e w9 ⟨hb9, hN9⟩
              obtain ⟨x, rfl, hx⟩ := (hN9.resolve_right (fun h => by cases h.1)).2
              have b10 : Below w9.heap.size w9 (w9.alloc (.cells (itT.cells x).toArray 80)) := below_al1 _ _
              have BA10 := hid ((BA8.out.more hb9).more b10)
              have BE10 := hid ((BE8.out.more hb9).more b10)
              have y10 := hid ((hy8h.out.more hb9).more b10)
              have B23 := Blk.new w9 (itT.cells x).toArray 80
              unfold itT at B23 BA10 BE10 y10
              dsimp only at B23 BA10 BE10 y10
              by_cases hid : nodeI y8.l = (f k).i
              · rw [hx, hid] at B23 BA10 BE10 y10
                simp only [ItS.v, hx, hid]
                obtain ⟨l3, k3, f3⟩ := BA10.out.b18
                obtain ⟨l4, k4, f4⟩ := BE10.out
                obtain ⟨l5, k5, f5⟩ := B23
                have KI := is_any y8.l y8.a y8.cap y10.out.2.1 y10.out.2.2 5 ⟨ep, sq, (cntW f k : Int) + 1⟩ _ y10.out.1
                have hidb : (nodeI y8.l == (f k).i) = true := by rw [hid]; simp
                cases hisb : isB y8.l 5 ⟨ep, sq, (cntW f k : Int) + 1⟩ with
                | true =>
                  have hok2 := hid2 (show wrGood R z ep sq f (k + 1) = true from by rw [hwg.out, hokh.out, hng, hidb, hisb]; rfl)
                  rw [hisb] at KI
                  replace KI := hid2 KI
                  clear KN hb9 b10 BA8 BE8 hx hid hidb hwg hnoG hng hisb hN9
                  go_wp2_with fail
                  refine KI.out.mono ?_
                  rintro e w11 ⟨rfl, hb11⟩
                  have BA11 := hid2 (BA10.out.more hb11)
                  rw [show (cntW f k : Int) + 1 = ((cntW f (k + 1) : Nat) : Int) by rw [hcsh.out]; omega] at BA11
                  clear KI hb11 BA10 l3 k3 f3 l4 k4 f4 l5 k5 f5
                  go_wp2_with fail
                  go_roundw
                  case rel => exact ⟨k + 1, by have := hlth.out; omega, by simp, BA11.out, hok2.out⟩
                  case measure => have := hlth.out; simp [intOf]; omega
                | false =>
                  have hfin := hid2 (show ¬ bG = true from hnoG.out (by rw [hwg.out, hisb]; simp))
                  rw [hisb] at KI
                  replace KI := hid2 KI
                  clear KN hb9 b10 BA8 BE8 hx hid hidb hwg hnoG hng hisb hN9
                  go_wp2_with fail
                  refine KI.out.mono ?_
                  rintro e w11 ⟨rfl, hb11⟩
                  have BA11 := BA10.out.more hb11
                  have F := hid2 (bat_none (b := b) (N := N) (R := R) (c0 := c0) BA11.kl BA11.b10 BA11.s BA11.d [.int .i64 0, .bool false, .slice none 0 0] rfl)
                  clear l3 k3 f3 l4 k4 f4 l5 k5 f5
                  obtain ⟨l3, k3, f3⟩ := BA11.b13
                  obtain ⟨l4, k4, f4⟩ := BA11.b10
                  clear KI hb11 BA10 BA11
                  go_wp2_with fail
                  simp only [setAll, Nat.zero_add, Nat.reduceAdd] at F
                  clear l3 k3 f3 l4 k4 f4
                  generalize World.setCell _ _ _ = W9 at *
                  obtain ⟨l9, k9, f9⟩ := F.out.1
                  refine bodyPost_ret (v := .tuple #[smval 0 false none 0 0, .bool false, .int .i64 0]) (by simp [results, Try.results47, go_sem, k9, fillC]) rfl ⟨F.out.2.2.1, F.out.2.1, .inr ⟨hfin.out, rfl⟩⟩
              · have hne : ¬ x.id = (f k).i := by rw [hx]; exact hid
                have hfin := hid2 (show ¬ bG = true from hnoG.out (by
                  have : (nodeI y8.l == (f k).i) = false := by rw [beq_eq_false_iff_ne]; exact hid
                  rw [hwg.out, this]; simp))
                have F := hid2 (bat_none (b := b) (N := N) (R := R) (c0 := c0) BA10.out.kl BA10.out.b10 BA10.out.s BA10.out.d [.int .i64 0, .bool false, .slice none 0 0] rfl)
                obtain ⟨l3, k3, f3⟩ := BA10.out.b13
                obtain ⟨l4, k4, f4⟩ := BA10.out.b10
                obtain ⟨l5, k5, f5⟩ := B23
                obtain ⟨l6, k6, f6⟩ := BE10.out
                clear KN hb9 b10 BA8 BE8 hx hid hwg hnoG hng hN9 BA10 BE10
                go_wp2_with fail
                simp only [setAll, Nat.zero_add, Nat.reduceAdd] at F
                clear l3 k3 f3 l4 k4 f4 l5 k5 f5 l6 k6 f6
                generalize World.setCell _ _ _ = W9 at *
                obtain ⟨l9, k9, f9⟩ := F.out.1
                refine bodyPost_ret (v := .tuple #[smval 0 false none 0 0, .bool false, .int .i64 0]) (by simp [results, Try.results47, go_sem, k9, fillC]) rfl ⟨F.out.2.2.1, F.out.2.1, .inr ⟨hfin.out, rfl⟩⟩
          · rw [if_neg hk1] at hcs
            have hk1' : ((f k).k == 1) = false := by rw [beq_eq_false_iff_ne]; exact hk1
            have hokh := hid hok
            have hcs2 : cntW f (k + 1) = cntW f k := by omega
            rw [← hcs2] at BA2
            have hokg := hid (show wrGood R z ep sq f (k + 1) = true from by show (wrGood R z ep sq f k && (if (f k).k = 1 then _ else true)) = true; rw [if_neg hk1, hokh.out]; rfl)
            clear hcs hcs2
            clear re hk1 hok b6 hkl hlt
            obtain ⟨l3, k3, f3⟩ := BE
            generalize (f k).k = ek at *
            generalize (f k).i = ei at *
            go_wp2_with fail
            go_roundw
            case rel => exact ⟨k + 1, by have := hlth.out; omega, by simp, BA2.out, hokg.out⟩
            case measure => have := hlth.out; simp [intOf]; omega
        · obtain rfl : k = n := by omega
          have hlt' : ¬ (k : Int) < (k : Int) := by omega
          have F := hid (bat_none (b := b) (N := N) (R := R) (c0 := c0) BA1.kl BA1.b10 BA1.s BA1.d [.int .i64 nx, .bool la, .slice q k c] rfl)
          have RQ9 := hid (RowP.apart BA1.row (bat_none (b := b) (N := N) (R := R) (c0 := c0) BA1.kl BA1.b10 BA1.s BA1.d [.int .i64 nx, .bool la, .slice q k c] rfl).2.2.2 (fun b' o e hn h => by have := BA1.q b' o e hn; omega))
          have hfin := hid (show bG = true from by rw [hbG2.out, hok, decide_eq_true hlfh.out]; rfl)
          have hq9 := hid (fun b' o (e : q = some ⟨b', o, none⟩) (hn : k ≠ 0) => show w.heap.size < b' from by have := (BA1.q b' o e hn).1; omega)
          obtain ⟨l3, k3, f3⟩ := BA1.b16
          obtain ⟨l4, k4, f4⟩ := BA1.b10
          clear BA1 hok hlt hkl
          go_wp2_with fail
          simp only [setAll, Nat.zero_add, Nat.reduceAdd] at F RQ9
          clear l3 k3 f3 l4 k4 f4
          generalize World.setCell _ _ _ = W9 at *
          obtain ⟨l9, k9, f9⟩ := F.out.1
          refine bodyPost_ret (v := .tuple #[smval nx la q k c, .bool true, .int .i64 0]) (by simp [results, Try.results47, go_sem, k9, fillC]) rfl ⟨F.out.2.2.1, F.out.2.1, .inl ⟨hfin.out, q, c, rfl, cc.out.1, cc.out.2, RQ9.out, hq9.out⟩⟩
    · have hlf1 : decide (1 + (cntW f n : Int) > left) = true := decide_eq_true (by omega)
      have F := hid (bat_none (b := b) (N := N) (R := R) (c0 := c0) hKs.out H10q.out S4.out d4.out [.int .i64 0, .bool false, .slice none 0 0] rfl)
      have hfin := hid (show ¬ bG = true from fun h => by rw [hbG2.out, decide_eq_false hlf] at h; cases h)
      have hlf3 : left < 1 + (cntW f n : Int) := by omega
      clear hlf
      go_wp2_with fail
      simp only [setAll, Nat.zero_add, Nat.reduceAdd] at F
      clear l0 k0 f0 l1 k1 f1 l2 k2 f2
      generalize World.setCell _ _ _ = W9 at *
      obtain ⟨l9, k9, f9⟩ := F.out.1
      refine bodyPost_ret (v := .tuple #[smval 0 false none 0 0, .bool false, .int .i64 0]) (by simp [results, Try.results47, go_sem, k9, fillC]) rfl ⟨F.out.2.2.1, F.out.2.1, .inr ⟨hfin.out, rfl⟩⟩
  · have b3 : Below w2.heap.size w2 (w2.alloc (.cells s0c 83)) := below_al1 _ _
    have b13 := below2 hb2 b3 hb2.size
    have F := hid (bat_none (b := b) (N := N) (R := R) (c0 := c0) hKs.out (H10h.out.more b13) (SS.out.trans (Sole.made b13)) (d1.elim fun m' hd => ⟨m', hd.1.more b13, hd.2⟩) [.int .i64 0, .bool false, .slice none 0 0] rfl)
    have H13' := H13h.out.more b13
    have H10' := H10h.out.more b13
    have B16 := Blk.new w2 s0c 83
    have hfin := hid (show ¬ bG = true from fun h => by rw [hbG.out, ht] at h; cases h)
    obtain ⟨l0, k0, f0⟩ := H10'
    obtain ⟨l1, k1, f1⟩ := H13'
    obtain ⟨l2, k2, f2⟩ := B16
    clear KS d1 b3 b13 hb2 ht hbG fold hgood
    go_wp2_with fail
    simp only [setAll, Nat.zero_add, Nat.reduceAdd] at F
    clear l0 k0 f0 l1 k1 f1 l2 k2 f2
    generalize World.setCell _ _ _ = W9 at *
    obtain ⟨l9, k9, f9⟩ := F.out.1
    refine bodyPost_ret (v := .tuple #[smval 0 false none 0 0, .bool false, .int .i64 0]) (by simp [results, Try.results47, go_sem, k9, fillC]) rfl ⟨F.out.2.2.1, F.out.2.1, .inr ⟨hfin.out, rfl⟩⟩
end Go.Proofs.Ytcklmemnjchdcaa
