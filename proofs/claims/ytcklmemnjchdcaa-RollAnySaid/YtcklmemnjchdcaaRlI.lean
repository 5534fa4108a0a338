/-
  RollAny answers true for any octets of any sectors, any mark and any size, and changes nothing that was there: whatever stands on a disk, going on ends; all sectors of the map that is told are of the mark's map, or of the log. For every input, without a condition.
-/
import Derived.Test.YtcklmemnjchdcaaRlH2
import Derived.Test.YtcklmemnjchdcaaOcRow
import Derived.Test.YtcklmemnjchdcaaOctArg
import Derived.Deep.Slices
import Derived.Test.YtcklmemnjchdcaaLift
import Derived.Test.YtcklmemnjchdcaaOpen

/-
  Package roll: Forward, from a mark that does not fit.
-/

namespace Go.Proofs.Ytcklmemnjchdcaa
open Go.RowKit Go.Maps
set_option linter.unusedVariables false
set_option linter.unusedSimpArgs false

set_option maxRecDepth 100000 in
set_option maxHeartbeats 16000000 in
theorem rforward_bad (v : Value) (n z : Int) (c : Array Value) (F : Nat → Int) (Nm : Nums c .i64 292 F) (hfit : fitsB n z F = false) (w : World) :
    Calls Try.prog 12 #[v, geo n z, .agg c] w fun e w' => e = .returned (.tuple #[.agg zerosF, .int .i64 4]) ∧ Below w.heap.size w w' := by
  have KF := fun w => rfits_any n z c F Nm w
  rw [hfit] at KF
  replace KF := hid KF
  have hci := hid (show (Try.prog.info? 34).map (·.size) = some c.size by rw [marktab, Nm.size])
  have B4 := (Blk.new w #[.int .i64 n, .int .i64 z] 25).more (below_al1 (w.alloc (.cells #[.int .i64 n, .int .i64 z] 25)) (.cells c 34))
  have B5 : Blk ((w.alloc (.cells #[.int .i64 n, .int .i64 z] 25)).alloc (.cells c 34)) (w.heap.size + 1) c := by
    have := Blk.new (w.alloc (.cells #[.int .i64 n, .int .i64 z] 25)) c 34
    simpa using this
  have H0 := below2 (below_al1 w (.cells #[.int .i64 n, .int .i64 z] 25)) (below_al1 _ (.cells c 34)) (by simp)
  have hs0 : ((w.alloc (.cells #[.int .i64 n, .int .i64 z] 25)).alloc (.cells c 34)).heap.size = w.heap.size + 1 + 1 := by simp
  obtain ⟨Z9, hZ9⟩ : ∃ Z, Z = zerosF := ⟨_, rfl⟩
  have h9i := hid (show (Try.prog.info? 43).map (·.size) = some Z9.size by rw [hZ9, foundtab]; simp [zerosF])
  have h9o := hid (show Z9.all (·.oneCell') = true by rw [hZ9, Array.all_eq_true]; intro i hi; simp [zerosF, Value.oneCell'])
  have B6 := Blk.new ((w.alloc (.cells #[.int .i64 n, .int .i64 z] 25)).alloc (.cells c 34)) Z9 43
  have b6 := below_al1 ((w.alloc (.cells #[.int .i64 n, .int .i64 z] 25)).alloc (.cells c 34)) (.cells Z9 43)
  rw [hs0] at B6
  have B4h := hid (B4.more b6)
  have B5h := hid (B5.more b6)
  have B6h := hid B6
  have H6h := hid (below2 H0 b6 H0.size)
  have hal := hid (fun ρ dst ty pos af W => (hZ9 ▸ fallocF ρ dst ty pos af W : (execOp ρ { dst := dst, op := .alloc 43, type := ty, pos := pos, after := af, guard := none }).run Try.prog W = .ok (.value (.pointer (some ⟨W.heap.size, 0, none⟩))) (W.alloc (.cells Z9 43))))
  have hbl := hid (fun ρ dst ty pos af W => (hZ9 ▸ fbuildZ ρ dst ty pos af W : (execOp ρ { dst := dst, op := .build 43 #[], type := ty, pos := pos, after := af, guard := none }).run Try.prog W = .ok (.value (.agg Z9)) W))
  rw [← hZ9]
  clear B4 B5 B6 H0 b6 Nm hfit hs0 hZ9
  go_enter Try.func12, Try.ntmps12
  go_wp2_with (refine Go.Great.wpList_runTo rfl (some 6) rfl _ _ (hal.out _ _ _ _ _ _) ?_)
  generalize ((w.alloc (.cells #[.int .i64 n, .int .i64 z] 25)).alloc (.cells c 34)).alloc (.cells Z9 43) = W at *
  refine rwp_load 34 _ rfl (w.heap.size + 1) rfl c _ B5h.out Try.underlying34 rfl hci.out ?_
  obtain ⟨l4, m4, f4⟩ := B4h.out
  go_wp2_with fail
  refine (KF.out _).mono ?_
  rintro e w1 ⟨rfl, hb1⟩
  have H1 := hid (below2 H6h.out hb1 H6h.out.size)
  have B61 := B6h.out.more hb1
  have th := B61.there (n := Z9.size) rfl
  have BZ := hid (B61.whole9 (C := Z9) rfl)
  have D1 := hid (below_cells H1.out (show w.heap.size ≤ w.heap.size + 1 + 1 by omega) 0 Z9.toList)
  clear hb1 l4 m4 f4 KF B4h B5h B6h H6h B61
  go_wp2_with (first | (refine Go.Great.wpList_runTo rfl (some 20) rfl _ _ (hbl.out _ _ _ _ _ _) ?_) | (refine wpList_store_mid rfl 43 _ _ rfl (w.heap.size + 1 + 1) 0 Z9 rfl rfl th h9i.out h9o.out ?_; generalize World.setCells _ _ _ _ = WZ at *; clear th))
  refine bodyPost_ret (v := .tuple #[.agg Z9, .int .i64 4]) (results_blk2 Try.results12 _ _ (w.heap.size + 1 + 1) _ _ _ rfl rfl BZ.out Try.underlying43 rfl h9i.out) rfl ⟨rfl, D1.out⟩
end Go.Proofs.Ytcklmemnjchdcaa

/-
  Layer 20: whatever stands on a disk, going on ends; all sectors of the map that is told are of the mark's map, or of the log.
-/



namespace Go.Proofs.Ytcklmemnjchdcaa
open Go.RowKit Go.Maps
set_option linter.unusedVariables false
set_option linter.unusedSimpArgs false

set_option maxRecDepth 100000 in
theorem eql_zeros (w : World) : (binOp .eql 43 (.agg zerosF) (.agg zerosF)).run Try.prog w = .ok (.bool true) w := by kernel_rfl
set_option maxRecDepth 100000 in
theorem fbuildZg (ρ : Operand → Value) (dst : Option Tmp) (ty : TypeId) (pos : String) (af : Array Edge) (g : Option (Nat × Bool)) (w : World) : (execOp ρ { dst := dst, op := .build 43 #[], type := ty, pos := pos, after := af, guard := g }).run Try.prog w =
    .ok (.value (.agg zerosF)) w := by kernel_rfl
theorem feql_run (ρ : Operand → Value) (dst : Option Tmp) (ty : TypeId) (pos : String) (af : Array Edge) (g : Option (Nat × Bool)) (x y : Operand) (hx : ρ x = .agg zerosF) (hy : ρ y = .agg zerosF) (w : World) : (execOp ρ { dst := dst, op := .binOp .eql 43 x y 43, type := ty, pos := pos, after := af, guard := g }).run Try.prog w =
    .ok (.value (.bool true)) w := by
  unfold execOp
  simp only [hx, hy]
  kernel_rfl
theorem rwp_runTo {P : Program} {o : Oper} {a : Act} {w : World} {K : Act → World → Prop} {Q : Exit → Act → World → Prop} (v : Value) (w' : World) (hrun : (execOp a.eval o).run P w = .ok (.value v) w')
    (h : K (a.put o.dst v) w') : Oper.wp P o a w K Q := by
  unfold Oper.wp
  rw [hrun, Oper.upon_value]
  exact h
theorem z5 (s : Int) (h0 : 0 ≤ s) (h1 : s ≤ 255) : 0 ≤ s.tmod 5 ∧ s.tmod 5 ≤ 4 ∧ s.tmod 5 = s % 5 := by
  have : s.tmod 5 = s % 5 := Int.tmod_eq_emod_of_nonneg h0
  omega

set_option maxRecDepth 100000 in
set_option maxHeartbeats 16000000 in
theorem rollAny (xp : Option Addr) (xc : Nat) (Xs : List OcS) (h1 : Xs.length ≤ xc) (h2 : xc ≤ maxLen) (c : Array Value) (F : Nat → Int) (Nm : Nums c .i64 292 F) (s : Int) (hs0 : 0 ≤ s) (hs1 : s ≤ 255) (w : World) (RX : RowOf ocT w xp Xs) (hX : ∀ x ∈ Xs, x.there w) :
    Calls Try.prog 5 #[.slice xp Xs.length xc, .agg c, .int .u8 s] w fun e w' => e = .returned (.bool true) ∧ Below w.heap.size w w' := by
  have KA := hid (fun w => alive20 w)
  have hz := z5 s hs0 hs1
  have BM := hid (Blk.new w c 34)
  have D0 := hid (below_al1 w (.cells c 34))
  have RXh := hid (RX.more (below_al1 w (.cells c 34)))
  have hXh := hid (fun x hx => (hX x hx).more (below_al1 w (.cells c 34)))
  have hcap := hid (And.intro h1 h2)
  obtain ⟨n0, hn0⟩ : ∃ n, n = Xs.length := ⟨_, rfl⟩
  have hn0m : (n0 : Int) ≤ 9223372036854775807 := by unfold maxLen at h2; omega
  have hc0 : n0 ≤ xc := by omega
  rw [← hn0]
  replace hn0 := hid hn0
  clear h1 h2 RX hX
  go_enter Try.func5, Try.ntmps5
  go_wp2_with fail
  generalize w.alloc (.cells c 34) = W at *
  refine (KA.out _).mono ?_
  rintro e w1 ⟨rfl, hb1⟩
  have D1 := hid (below2 D0.out hb1 D0.out.size)
  have BM1 := hid (BM.out.more hb1)
  have RX1 := hid (RXh.out.more hb1)
  have hX1 := hid (fun x hx => (hXh.out x hx).more hb1)
  clear hb1 KA D0 BM RXh hXh
  go_wp2_with fail
  generalize hzz : 4 + s % 5 = z at *
  have hz1 : 4 ≤ z ∧ z ≤ 8 := by omega
  have hok : okB 6 z = true := by unfold okB; simp; omega
  have hsec : secI 6 z = 9 + 6 * z := by unfold secI; rw [if_pos hok]
  have KS := fun w => lsectors_any 6 z w
  rw [hsec] at KS
  have b2 := below_al1 w1 (.cells #[.int .i64 6, .int .i64 z] 25)
  have B7 := hid (Blk.new w1 #[.int .i64 6, .int .i64 z] 25)
  have D2 := hid (below2 D1.out b2 D1.out.size)
  have BM2 := hid (BM1.out.more b2)
  have RX2 := hid (RX1.out.more b2)
  have hX2 := hid (fun x hx => (hX1.out x hx).more b2)
  clear b2 D1 BM1 RX1 hX1 hzz hz hs0 hs1 hsec
  generalize w1.alloc (.cells #[.int .i64 6, .int .i64 z] 25) = W2 at *
  generalize w1.heap.size = g7 at *
  refine (KS _).mono ?_
  rintro e w3 ⟨rfl, hb3⟩
  have D3 := hid (below2 D2.out hb3 D2.out.size)
  have BM3 := hid (BM2.out.more hb3)
  have B73 := hid (B7.out.more hb3)
  have RX3 := hid (RX2.out.more hb3)
  have hX3 := hid (fun x hx => (hX2.out x hx).more hb3)
  have KN := hid (dnew_any (9 + 6 * z) w3)
  clear hb3 D2 BM2 RX2 hX2 KS B7
  go_wp2_with fail
  refine KN.out.mono ?_
  rintro e w4 ⟨Lz, rfl, DD, ND, hb4⟩
  obtain ⟨N, hN⟩ : ∃ N, N = sectorsN (9 + 6 * z) := ⟨_, rfl⟩
  have hNz : (N : Int) = 9 + 6 * z := by rw [hN]; unfold sectorsN; omega
  rw [← hN] at DD ND
  have D4 := hid (below2 D3.out hb4 D3.out.size)
  have BM4 := hid (BM3.out.more hb4)
  have B74 := hid (B73.out.more hb4)
  have RX4 := hid (RX3.out.more hb4)
  have hX4 := hid (fun x hx => (hX3.out x hx).more hb4)
  have old := hid (show (∀ b' o, xp = some ⟨b', o, none⟩ → n0 ≠ 0 → b' < w3.heap.size) ∧ (∀ x ∈ Xs, ∀ b' o, x.a = some ⟨b', o, none⟩ → x.l ≠ [] → b' < w3.heap.size) ∧ w.heap.size < w3.heap.size ∧ g7 < w3.heap.size from ⟨fun b' o e hn => by
    rcases RX3.out with h0 | ⟨b2, o2, e2, R2⟩
    · exact absurd h0 (by rw [← hn0.out]; exact hn)
    · rw [e] at e2; cases e2; exact R2.lt, fun x hx b' o e hne => by
    rcases (hX3.out x hx).1 with h0 | ⟨b2, o2, e2, hlt, _⟩
    · exact absurd h0 hne
    · rw [e] at e2; cases e2; exact hlt, BM3.out.lt, B73.out.lt⟩)
  have DDh := hid DD
  have NDh := hid ND
  have hNh := hid hNz
  clear hb4 D3 BM3 B73 RX3 hX3 KN DD ND hN
  generalize w3.heap.size = H3 at *
  generalize H3 + 3 = bd at *
  go_upto_if 28 with (fail)
  go_cut [0] (fun v wx => wx = w4 ∧ ∃ (Ys : List OcS), v = .slice xp Ys.length xc ∧ Ys.length ≤ xc ∧ RowOf ocT w4 xp Ys ∧ (∀ x ∈ Ys, x ∈ Xs) ∧ (Ys.length ≠ 0 → n0 ≠ 0))
  case first =>
    by_cases h70 : 70 < n0
    · have h70' : decide ((70 : Int) < (n0 : Int)) = true := decide_eq_true (by omega)
      have hc70 : (70 : Int) ≤ (xc : Int) := by omega
      obtain ⟨b, o, hxp, R⟩ := RowP.row RX4.out (by rw [← hn0.out]; omega)
      have HR1 := hid (RowOf.take RX4.out 70 (by rw [← hn0.out]; omega))
      have hlen := hid (show (Xs.take 70).length = 70 by rw [List.length_take, ← hn0.out]; omega)
      have hmem := hid (fun x (hx : x ∈ Xs.take 70) => List.mem_of_mem_take hx)
      clear R
      subst hxp
      go_wp2_with fail
      go_meet
      case rel => exact ⟨rfl, Xs.take 70, by rw [hlen.out], by rw [hlen.out]; omega, HR1.out, hmem.out, fun _ => by omega⟩
    · have h70' : decide ((70 : Int) < (n0 : Int)) = false := decide_eq_false (by omega)
      go_wp2_with fail
      go_meet
      case rel => exact ⟨rfl, Xs, by rw [hn0.out], by rw [← hn0.out]; exact hc0, RX4.out, fun x hx => hx, fun h => by rw [hn0.out]; exact h⟩
  case rest =>
    obtain ⟨rfl, Ys, rfl, hYc, RY, hYm, hYn⟩ := hcut
    have KL := hid (load_any _ bd _ _ DDh.out xp xc Ys RY (fun b' o e hn hk => by have h1 := old.out.1 b' o e (hYn hn); have h2 := hk.1; omega) (fun x hx => ⟨hX4.out x (hYm x hx), fun b' o e hne hk => by have h1 := old.out.2.1 x (hYm x hx) b' o e hne; have h2 := hk.1; omega⟩))
    have hgo := hid old.out.2.2
    clear RY hYm hYn hYc RX4 hX4 old
    generalize hny : Ys.length = ny at KL ⊢
    go_wp2_with fail
    refine KL.out.mono ?_
    rintro e w5 ⟨rfl, L5, DO5, LD, S5⟩
    have D5 := hid (D4.out.trans (S5.below (B := w.heap.size) D4.out.size (fun k hk => by have := hgo.out.1; omega)))
    have BM5 := hid (BM4.out.sole S5 (fun hk => by have := hgo.out.1; have := hk.1; omega))
    have B75 := hid (B74.out.sole S5 (fun hk => by have := hgo.out.2; have := hk.1; omega))
    have hlen5 := LD.len.trans NDh.out.S
    have hR5 : ∀ x : Int, 0 ≤ x → x < (N : Int) → ((((newM H3 N Lz).clean.moved L5 DO5 (newM H3 N Lz).n').cur x).l).length = 256 := fun x h0 h1 => by
      show (ocA L5 x.toNat).l.length = 256
      have hi : x.toNat < (newM H3 N Lz).Ls.length := by rw [NDh.out.S]; omega
      rw [LD.S x.toNat hi]
      split
      · exact fillL_len _
      · rw [NDh.out.Z _ (ocA_mem _ _ hi), zerosN_len]
    have KB := hid (fun (hf : fitsB 6 z F = false) => rforward_bad (.pointer (some ⟨bd, 0, none⟩)) 6 z c F Nm hf w5)
    have KG := hid (fun (hf : fitsB 6 z F = true) => rforward_any _ bd _ w5 LD.D (N := N) (R := fun x => (((newM H3 N Lz).clean.moved L5 DO5 (newM H3 N Lz).n').cur x).l) ⟨rfl, rfl, hlen5, fun _ => rfl⟩ (c0 := 0) ⟨rfl, Nat.le_refl _, Nat.le_refl _⟩ hR5 6 z hNh.out (by have := hNh.out; omega) c F Nm hf)
    have hmi := hid (show (Try.prog.info? 34).map (·.size) = some c.size by rw [marktab, Nm.size])
    have KM := hid (fun w => mcheck_any c F Nm w)
    clear S5 LD hlen5 hR5 D4 BM4 B74 KL
    obtain ⟨l7, m7, f7⟩ := B75.out
    go_wp2_with (refine rwpList_load rfl 34 _ rfl w.heap.size rfl c _ BM5.out Try.underlying34 rfl hmi.out ?_)
    have g1 := hid (Nm.get 1 (by omega))
    have g2 := hid (Nm.get 2 (by omega))
    have g3 := hid (Nm.get 3 (by omega))
    have hfd := hid (show fitsB 6 z F = (mOk F && (decide (F 1 < 6) && (decide (F 3 < 6) && decide (F 2 ≤ z)))) from by unfold fitsB; rw [hok]; rfl)
    cases hf : fitsB 6 z F with
    | false =>
      refine (KB.out hf).mono ?_
      rintro e w6 ⟨rfl, hb6⟩
      obtain ⟨Z9, hZ9⟩ : ∃ Z, Z = zerosF := ⟨_, rfl⟩
      have h9i := hid (show (Try.prog.info? 43).map (·.size) = some Z9.size by rw [hZ9, foundtab]; simp [zerosF])
      have h9o := hid (show Z9.all (·.oneCell') = true by rw [hZ9, Array.all_eq_true]; intro i hi; simp [zerosF, Value.oneCell'])
      have hal := hid (fun ρ dst ty pos af W => (hZ9 ▸ fallocF ρ dst ty pos af W : (execOp ρ { dst := dst, op := .alloc 43, type := ty, pos := pos, after := af, guard := none }).run Try.prog W = .ok (.value (.pointer (some ⟨W.heap.size, 0, none⟩))) (W.alloc (.cells Z9 43))))
      have heq := hid (fun (ρ : Operand → Value) (dst : Option Tmp) (ty : TypeId) (pos : String) (af : Array Edge) (g : Option (Nat × Bool)) (x y : Operand) (hx : ρ x = .agg Z9) (hy : ρ y = .agg Z9) (W : World) => (feql_run ρ dst ty pos af g x y (hx.trans (by rw [hZ9])) (hy.trans (by rw [hZ9])) W : (execOp ρ { dst := dst, op := .binOp .eql 43 x y 43, type := ty, pos := pos, after := af, guard := g }).run Try.prog W = .ok (.value (.bool true)) W))
      have hbl := hid (fun ρ dst ty pos af g W => (hZ9 ▸ fbuildZg ρ dst ty pos af g W : (execOp ρ { dst := dst, op := .build 43 #[], type := ty, pos := pos, after := af, guard := g }).run Try.prog W = .ok (.value (.agg Z9)) W))
      rw [← hZ9]
      have BF := Blk.new w6 Z9 43
      have th := BF.there (n := Z9.size) rfl
      have BZ7 := hid (BF.whole9 (C := Z9) rfl)
      have ba := below_al1 w6 (.cells Z9 43)
      have SZ := sole_setCells (S := fun k => k = w6.heap.size) rfl Z9.toList 0 (w6.alloc (.cells Z9 43))
      have D7 := hid (D5.out.trans ((below_cells ((hb6.mono (Nat.le_refl _)).trans (ba.mono hb6.size)) hb6.size 0 Z9.toList).mono D5.out.size))
      have BM7 := hid (((BM5.out.more hb6).more ba).sole SZ (by show ¬ _; have := (BM5.out.more hb6).lt; omega))
      have B77 := hid (((B75.out.more hb6).more ba).sole SZ (by show ¬ _; have := (B75.out.more hb6).lt; omega))
      clear BF ba SZ hb6 KB KG l7 m7 f7 hZ9 D5
      have hway : (mCk F = 4 ∧ True) ∨ (mCk F = 0 ∧ decide (F 1 < 6) = false) ∨ (mCk F = 0 ∧ decide (F 1 < 6) = true ∧ decide (F 3 < 6) = false) ∨ (mCk F = 0 ∧ decide (F 1 < 6) = true ∧ decide (F 3 < 6) = true ∧ decide (F 2 ≤ z) = false) := by
        have h := hfd.out
        rw [hf] at h
        unfold mCk
        cases hm : mOk F with
        | false => exact .inl ⟨by simp, trivial⟩
        | true =>
          rw [hm] at h
          right
          cases h1 : decide (F 1 < 6) with
          | false => exact .inl ⟨by simp, rfl⟩
          | true =>
            right
            rw [h1] at h
            cases h2 : decide (F 3 < 6) with
            | false => exact .inl ⟨by simp, rfl, rfl⟩
            | true =>
              right
              rw [h2] at h
              exact ⟨by simp, rfl, rfl, by simpa using h.symm⟩
      clear hfd hf
      generalize mCk F = cm at *
      generalize F 1 = f1 at *
      generalize F 2 = f2 at *
      generalize F 3 = f3 at *
      replace hway := hid hway
      go_wp2_with (first | (refine Go.Great.wpList_runTo rfl (some 9) rfl _ _ (hal.out _ _ _ _ _ _) ?_; refine wpList_store_mid rfl 43 _ _ rfl w6.heap.size 0 Z9 rfl rfl th h9i.out h9o.out ?_; generalize World.setCells _ _ _ _ = WZ at *; clear th) | (refine rwpList_load rfl 34 _ rfl w.heap.size rfl c _ BM7.out Try.underlying34 rfl hmi.out ?_))
      refine (KM.out _).mono ?_
      rintro e w8 ⟨rfl, hb8⟩
      have D8 := hid (D7.out.trans (hb8.mono D7.out.size))
      have BM8 := BM7.out.more hb8
      have BZ8 := hid (BZ7.out.more hb8)
      have v1 := (BM8.cell 1).trans g1.out
      have v2 := (BM8.cell 2).trans g2.out
      have v3 := (BM8.cell 3).trans g3.out
      have lM := BM8.lt
      obtain ⟨l7, m7, f7⟩ := B77.out.more hb8
      clear hb8 BM8
      rcases hway.out with ⟨rfl, _⟩ | ⟨rfl, u1⟩ | ⟨rfl, u1, u3⟩ | ⟨rfl, u1, u3, u2⟩
      all_goals
        clear hway
        go_wp2_with fail
        refine rwp_load 43 _ rfl w6.heap.size rfl Z9 _ BZ8.out Try.underlying43 rfl h9i.out ?_
        rename_i K9 h9
        refine h9 _ _ ?_
        clear h9
        simp only [Act.put, List.setIfInBounds_toArray, List.set_cons_zero, List.set_cons_succ]
        go_big_want
        refine rwp_runTo _ _ (hbl.out _ _ _ _ _ _ _) ?_
        rename_i K8 h8
        refine h8 _ _ ?_
        clear h8
        simp only [Act.put, List.setIfInBounds_toArray, List.set_cons_zero, List.set_cons_succ]
        go_big_want
        refine rwp_runTo _ _ (heq.out _ _ _ _ _ _ _ _ (by rfl) (by rfl) _) ?_
        rename_i K7 h7
        refine h7 _ _ ?_
        clear h7
        simp only [Act.put, List.setIfInBounds_toArray, List.set_cons_zero, List.set_cons_succ]
        go_wp2_with fail
        go_ret
        exact ⟨rfl, D8.out⟩
    | true =>
      have hp := hid (show mOk F = true ∧ F 1 < 6 ∧ F 3 < 6 ∧ F 2 ≤ z from by
        have h' := (hfd.out.symm.trans hf)
        simp only [Bool.and_eq_true, decide_eq_true_eq] at h'
        exact ⟨h'.1, h'.2.1, h'.2.2.1, h'.2.2.2⟩)
      refine (KG.out hf).mono ?_
      rintro e w6 ⟨_, S6, k, s, hr, _, hsk, _, rfl⟩
      have hla := (reach_law hok (rst0_law Nm hf) (rst0_ok Nm hf) k s hr).1
      obtain ⟨G, NG, hG⟩ := hla.c
      obtain ⟨p0, p1, p2, p3, p4, p5⟩ := hla.p
      have p6 := hla.d
      have p7 := hsk.b0
      have D6 := hid (D5.out.trans (S6.below (B := w.heap.size) D5.out.size (fun k hk => by have := hgo.out.1; have := hk.1; omega)))
      have BM6 := hid (BM5.out.sole S6 (fun hk => by have := hgo.out.1; have := hk.1; omega))
      have B76 := hid (B75.out.sole S6 (fun hk => by have := hgo.out.2; have := hk.1; omega))
      obtain ⟨CF, hCF⟩ : ∃ CF, CF = foundC s.c s.fp s.fb := ⟨_, rfl⟩
      have hcs := hid (show CF.size = 260 by rw [hCF]; exact foundC_size NG.size _ _)
      have hce := hid (show CF.all (·.oneCell') = true by rw [hCF]; exact found_one NG _ _)
      have hcg := hid (fun j (hj : j < 256) => (show CF[j]? = some (.int .i64 (G j)) from by rw [hCF, foundC_get NG.size, if_pos hj]; exact NG.get j hj))
      have e0 := hid (show CF[256]? = some (.int .i64 s.fp.s) by rw [hCF, foundC_get NG.size]; rfl)
      have e1 := hid (show CF[257]? = some (.int .i64 s.fp.o) by rw [hCF, foundC_get NG.size]; rfl)
      have e2 := hid (show CF[258]? = some (.int .i64 s.fp.x) by rw [hCF, foundC_get NG.size]; rfl)
      have e3 := hid (show CF[259]? = some (.int .i64 s.fb) by rw [hCF, foundC_get NG.size]; rfl)
      rw [← hCF]
      generalize s.fp.s = ps at *
      generalize s.fp.o = po at *
      generalize s.fp.x = px at *
      generalize s.fb = pb at *
      replace hG := hid (fun j (hj : j < 256) => show G j = F (36 + j) ∨ G j = 0 ∨ whB 6 z (G j) = true from hG j hj)
      have hNm := hid Nm
      have hpp := hid (And.intro p0 (And.intro p1 (And.intro p2 (And.intro p3 (And.intro p4 (And.intro p5 (And.intro p6 p7)))))))
      clear hla NG hr hsk hCF S6 KB KG hfd hf Nm p0 p1 p2 p3 p4 p5 p6 p7 D5 BM5 B75 l7 m7 f7
      obtain ⟨Z9, hZ9⟩ : ∃ Z, Z = zerosF := ⟨_, rfl⟩
      have h9s : Z9.size = 260 := by rw [hZ9]; simp [zerosF]
      have hal := hid (fun ρ dst ty pos af W => (hZ9 ▸ fallocF ρ dst ty pos af W : (execOp ρ { dst := dst, op := .alloc 43, type := ty, pos := pos, after := af, guard := none }).run Try.prog W = .ok (.value (.pointer (some ⟨W.heap.size, 0, none⟩))) (W.alloc (.cells Z9 43))))
      have BF := Blk.new w6 Z9 43
      have th := BF.there (n := CF.size) (by rw [hcs.out, h9s])
      have BZ7 := hid (BF.whole9 (C := CF) (by rw [hcs.out, h9s]))
      have ba := below_al1 w6 (.cells Z9 43)
      have SZ := sole_setCells (S := fun k => k = w6.heap.size) rfl CF.toList 0 (w6.alloc (.cells Z9 43))
      have D7 := hid (D6.out.trans ((below_cells (ba.mono (Nat.le_refl _)) (Nat.le_refl _) 0 CF.toList).mono D6.out.size))
      have BM7 := hid ((BM6.out.more ba).sole SZ (by show ¬ _; have := BM6.out.lt; omega))
      have B77 := hid ((B76.out.more ba).sole SZ (by show ¬ _; have := B76.out.lt; omega))
      clear BF ba SZ hZ9 h9s D6 BM6 B76
      have KM0 := hid (fun w => show Calls Try.prog 16 #[.agg c] w fun e w' => e = .returned (.int .i64 0) ∧ Below w.heap.size w w' from by
        have h := KM.out w
        unfold mCk at h
        rw [hp.out.1] at h
        exact h)
      clear KM
      have f1 := hp.out.2.1
      have f3 := hp.out.2.2.1
      have f2 := hp.out.2.2.2
      generalize F 1 = F1 at *
      generalize F 2 = F2 at *
      generalize F 3 = F3 at *
      clear hp
      go_wp2_with (first | (refine Go.Great.wpList_runTo rfl (some 9) rfl _ _ (hal.out _ _ _ _ _ _) ?_; refine wpList_store_mid rfl 43 _ _ rfl w6.heap.size 0 CF rfl rfl th (by rw [foundtab, hcs.out]) hce.out ?_; generalize World.setCells _ _ _ _ = WZ at *; clear th hal) | (refine rwpList_load rfl 34 _ rfl w.heap.size rfl c _ BM7.out Try.underlying34 rfl hmi.out ?_))
      refine (KM0.out _).mono ?_
      rintro e w8 ⟨rfl, hb8⟩
      have D8 := hid (D7.out.trans (hb8.mono D7.out.size))
      have BM8 := BM7.out.more hb8
      have BM8h := hid BM8
      have BZ8 := hid (BZ7.out.more hb8)
      have B78 := hid (B77.out.more hb8)
      have v1 := (BM8.cell 1).trans g1.out
      have v2 := (BM8.cell 2).trans g2.out
      have v3 := (BM8.cell 3).trans g3.out
      have lM := BM8.lt
      obtain ⟨l7, m7, f7⟩ := B77.out.more hb8
      clear hb8 BM8 KM0 D7 BM7 BZ7 B77
      generalize w6.heap.size = gF at *
      go_wp2_with fail
      clear v1 v2 v3 lM l7 m7 f7 f1 f2 f3 g1 g2 g3
      go_loopw [12] (fun i wx => ∃ k : Nat, k ≤ 256 ∧ i = .int .i64 (k : Int) ∧ Blk wx w.heap.size c ∧ Blk wx gF CF ∧ Blk wx g7 #[.int .i64 6, .int .i64 z] ∧ Below w.heap.size w wx) (fun i _ => 256 - (intOf i).toNat)
      case atStart => exact ⟨0, by omega, rfl, BM8h.out, BZ8.out, B78.out, D8.out⟩
      case round =>
        obtain ⟨k, hk, rfl, C0, C1, C2, Hb⟩ := hrel
        clear BM8h BZ8 B78 D8
        by_cases hlt : k < 256
        · have hlt1 : (k : Int) < 256 := by omega
          have hk0 : (0 : Int) ≤ (k : Int) := by omega
          have z0 := (C1.cell k).trans (hcg.out k hlt)
          have z1 := (C0.cell (36 + k)).trans (hNm.out.get (36 + k) (by omega))
          have hg := hid (hG.out k hlt)
          have hc0 := hid (hcg.out k hlt)
          have hc1 := hid (hNm.out.get (36 + k) (by omega))
          have KW := hid (fun w => where_any 6 z (G k) w)
          generalize G k = gk at *
          generalize F (36 + k) = mk at *
          generalize whB 6 z gk = wb at *
          generalize whQ 6 z gk = wq at *
          generalize whR 6 z gk = wo at *
          have q0 := fun u : Later wr => u.blk C2
          have cc : ∀ (c oo : Nat) (v : Value), wr.cell? ⟨c, oo, none⟩ = some v → ∀ u : Later wr, u.val.cell? ⟨c, oo, none⟩ = some v := fun c oo v hv u => (u.cell c oo (cell_lt hv)).trans hv
          have a0 := cc _ _ _ z0
          have C0h := hid C0
          have C1h := hid C1
          have C2h := hid C2
          have Hbh := hid Hb
          have z1h := hid z1
          have z0h := hid z0
          clear cc z0 z1 C0 C1 C2 Hb
          go_wp2_with fail
          refine wp_region_late 12 (by kernel_rfl) (by kernel_rfl) ?_
          simp only [List.take_succ_cons, List.take_zero, List.drop_succ_cons, List.drop_zero]
          iterate 12 (go_big_quiet_step ((go_at_call 17; (with_reducible exact late_call (KW.out _)))))
          refine wpQuiet_nil ?_
          intro w7 h7'
          have h7 := late_out h7'
          have E0 := hid (C0h.out.more h7)
          have E1 := hid (C1h.out.more h7)
          have E2 := hid (C2h.out.more h7)
          have D7 := hid (below2 Hbh.out h7 Hbh.out.size)
          clear q0 a0 h7' h7 C0h C1h C2h Hbh KW z0h z1h
          have b0 := fun u : Later w7 => (u.blk E1.out k).trans hc0.out
          have b1 := fun u : Later w7 => (u.blk E0.out (36 + k)).trans hc1.out
          have hlth := hid hlt
          clear hc0 hc1 hlt hk
          go_wp2_with fail
          by_cases e : gk = mk
          · have hne : (gk != mk) = false := by simp [e]
            clear e hg
            · skip
              refine wp_region_late 19 (by kernel_rfl) (by kernel_rfl) ?_
              simp only [List.take_succ_cons, List.take_zero, List.drop_succ_cons, List.drop_zero]
              iterate 19 (go_big_quiet_step (fail))
              refine wpQuiet_nil ?_
              intro w9 h9'
              have h9 := late_out h9'
              have G0 := hid (E0.out.more h9)
              have G1 := hid (E1.out.more h9)
              have G2 := hid (E2.out.more h9)
              have D9 := hid (below2 D7.out h9 D7.out.size)
              clear b0 b1 h9 h9'
              go_wp2_with fail
              go_roundw
              case rel => exact ⟨k + 1, by have := hlth.out; omega, by simp, G0.out, G1.out, G2.out, D9.out⟩
              case measure => have := hlth.out; simp [intOf]; omega
          · have hne : (gk != mk) = true := by simpa using e
            by_cases e0 : gk = 0
            · have hn0 : (gk != 0) = false := by simp [e0]
              clear e e0 hg
              skip
              refine wp_region_late 19 (by kernel_rfl) (by kernel_rfl) ?_
              simp only [List.take_succ_cons, List.take_zero, List.drop_succ_cons, List.drop_zero]
              iterate 19 (go_big_quiet_step (fail))
              refine wpQuiet_nil ?_
              intro w9 h9'
              have h9 := late_out h9'
              have G0 := hid (E0.out.more h9)
              have G1 := hid (E1.out.more h9)
              have G2 := hid (E2.out.more h9)
              have D9 := hid (below2 D7.out h9 D7.out.size)
              clear b0 b1 h9 h9'
              go_wp2_with fail
              go_roundw
              case rel => exact ⟨k + 1, by have := hlth.out; omega, by simp, G0.out, G1.out, G2.out, D9.out⟩
              case measure => have := hlth.out; simp [intOf]; omega
            · have hn0 : (gk != 0) = true := by simpa using e0
              have hwb : wb = true := by
                rcases hg.out with h | h | h
                · exact absurd h e
                · exact absurd h e0
                · exact h
              subst hwb
              clear e e0 hg
              skip
              refine wp_region_late 19 (by kernel_rfl) (by kernel_rfl) ?_
              simp only [List.take_succ_cons, List.take_zero, List.drop_succ_cons, List.drop_zero]
              iterate 19 (go_big_quiet_step (fail))
              refine wpQuiet_nil ?_
              intro w9 h9'
              have h9 := late_out h9'
              have G0 := hid (E0.out.more h9)
              have G1 := hid (E1.out.more h9)
              have G2 := hid (E2.out.more h9)
              have D9 := hid (below2 D7.out h9 D7.out.size)
              clear b0 b1 h9 h9'
              go_wp2_with fail
              go_roundw
              case rel => exact ⟨k + 1, by have := hlth.out; omega, by simp, G0.out, G1.out, G2.out, D9.out⟩
              case measure => have := hlth.out; simp [intOf]; omega
        · obtain rfl : k = 256 := by omega
          have hlt1 : ¬ ((256 : Nat) : Int) < 256 := by omega
          have y0 := (C1.cell 256).trans e0.out
          have y1 := (C1.cell 257).trans e1.out
          have y2 := (C1.cell 258).trans e2.out
          have y3 := (C1.cell 259).trans e3.out
          have lF := C1.lt
          obtain ⟨l7, m7, f7⟩ := C2
          have Hbh := hid Hb
          obtain ⟨p0, p1, p2, p3, p4, p5, p6, p7⟩ := hpp.out
          have p6h := hid (show (ps != px) = true by simpa using p6)
          clear C0 C1 Hb hlt hk
          go_wp2_with fail
          go_ret
          exact ⟨by rw [p6h.out]; rfl, Hbh.out⟩
end Go.Proofs.Ytcklmemnjchdcaa

/-
  What an argument that comes in is: a slice of slices of octets.
-/



namespace Go.Proofs.Ytcklmemnjchdcaa
open Go.ChangeShapes Go.WideShapes Go.ChangeAt Go.RowKit Go.Joins Go.Deep
set_option linter.unusedVariables false

set_option maxRecDepth 100000 in
/-- Octets in a cell. -/
theorem oct_in {H : Type} {enc : TypeId × Value → H} {W : World} {v : Value} {fuel : Nat} {x : DataW H × List MemPlace} (hf : DataW.trod enc Try.prog W 0 (fun _ => true) true fuel 51 [v] = some x) :
    ∃ s : OcS, v = .slice s.a s.l.length s.cap ∧ s.there W := by
  rcases open_ints Try.underlying51 Try.underlying5 (by kernel_rfl) hf with ⟨hcs, _⟩ | ⟨a, len, cap, zs, hcs, _, hl, hm, hz, hx, hcell, hwz⟩
  · simp at hcs
    subst hcs
    exact ⟨⟨none, 0, []⟩, rfl, .inl rfl, Nat.le_refl _, Nat.zero_le _⟩
  · simp at hcs
    subst hcs
    simp only [if_true] at hz
    have hll : ((zs.take len).map fun z => UInt8.ofNat z.toNat).length = len := by rw [List.length_map, List.length_take]; omega
    refine ⟨⟨some a, cap, (zs.take len).map fun z => UInt8.ofNat z.toNat⟩, by show _ = Value.slice (some a) ((zs.take len).map fun z => UInt8.ofNat z.toNat).length cap; rw [hll], ?_, by show ((zs.take len).map fun z => UInt8.ofNat z.toNat).length ≤ cap; rw [hll]; exact hl, hm⟩
    show Octs W (some a) ((zs.take len).map fun z => UInt8.ofNat z.toNat)
    by_cases h0 : len = 0
    · subst h0; exact .inl (by simp)
    · have c0 := hcell 0 (by omega)
      have hsp : a.spot = none := by
        have := World.cell?_spot c0
        simpa [Addr.add] using this
      obtain ⟨b, o, sp⟩ := a
      simp only at hsp
      subst hsp
      have hadd : ∀ k, Addr.add ⟨b, o, none⟩ k = ⟨b, o + k, none⟩ := by
        intro k
        unfold Addr.add
        split
        · subst k; rfl
        · rfl
      refine .inr ⟨b, o, rfl, ?_, fun i hi => ?_⟩
      · have := cell_lt c0
        rwa [hadd] at this
      · rw [hll] at hi
        have hi' : i < zs.length := by omega
        have hc := hcell i hi'
        have hb := bounds_u8 (hwz zs[i] (List.getElem_mem hi'))
        rw [hadd] at hc
        rw [hc]
        have e1 : zs.getD i 0 = zs[i] := by simp [hi']
        rw [e1]
        simp only [List.getElem_map, List.getElem_take]
        rw [byte_ofNat]
        congr 2
        omega

set_option maxRecDepth 100000 in
/-- A slice of slices of octets that comes in. -/
theorem octll_of {H : Type} {enc : TypeId × Value → H} {W : World} {b0 : Nat} {v : Value} {d : DataW H} {p : List MemPlace} (hv : Value.okWide Try.prog W .any b0 53 v) (h : DataW.Trod enc Try.prog W 0 (fun _ => true) true 53 v d p) :
    ∃ (L : List OcS) (a : Option Addr) (cap : Nat), v = .slice a L.length cap ∧ L.length ≤ cap ∧ cap ≤ maxLen ∧ RowOf ocT W a L ∧ ∀ x ∈ L, x.there W := by
  obtain ⟨fuel, hf⟩ := h
  obtain ⟨a0, len, cap, rfl⟩ := okWide_slice Try.underlying53 hv
  rcases open_slice Try.underlying53 hf with ⟨h0, _⟩ | ⟨a, len', cap', m, n, D, Pl, hcs, hb, hl, hm, hmm, hx, hi⟩
  · simp [Value.cells] at h0
    obtain ⟨rfl, rfl, rfl⟩ := h0
    exact ⟨[], none, 0, rfl, Nat.le_refl _, Nat.zero_le _, .inl rfl, fun x hx => by cases hx⟩
  · simp [Value.cells] at hcs
    obtain ⟨rfl, rfl, rfl⟩ := hcs
    have hlm : len ≤ m := by rw [hmm]; split <;> omega
    have each : ∀ i, i < len → ∃ s : OcS, W.cell? (a.add i) = some (.slice s.a s.l.length s.cap) ∧ s.there W := by
      intro i hil
      obtain ⟨cs', hc, ht'⟩ := hi i (by omega)
      have hC : Try.prog.cellsOf 51 = 1 := by kernel_rfl
      rw [hC, Nat.mul_one] at hc
      obtain ⟨_, hcl, hat⟩ := World.cells?_some hc
      have hc0 := hat 0 (by omega)
      match cs', hcl, hc0, ht' with
      | [u], _, hc0, ht' =>
        obtain ⟨s, rfl, hs⟩ := oct_in ht'
        refine ⟨s, ?_, hs⟩
        have : Addr.add (a.add i) 0 = a.add i := by unfold Addr.add; simp
        rw [this] at hc0
        simpa using hc0
    have hg : ∃ g : Nat → OcS, ∀ i, i < len → W.cell? (a.add i) = some (.slice (g i).a (g i).l.length (g i).cap) ∧ (g i).there W := by
      haveI : Nonempty OcS := ⟨⟨none, 0, []⟩⟩
      exact ⟨fun i => Classical.epsilon fun s : OcS => W.cell? (a.add i) = some (.slice s.a s.l.length s.cap) ∧ s.there W, fun i hi => Classical.epsilon_spec (each i hi)⟩
    obtain ⟨g, hg⟩ := hg
    have hlen : ((List.range len).map g).length = len := by simp
    refine ⟨(List.range len).map g, some a, cap, by rw [hlen], by rw [hlen]; exact hl, hm, ?_, fun s hs => ?_⟩
    · by_cases h0 : len = 0
      · exact .inl (by rw [hlen]; exact h0)
      · have c0 := (hg 0 (by omega)).1
        have hsp : a.spot = none := by
          have := World.cell?_spot c0
          simpa [Addr.add] using this
        obtain ⟨b, o, sp⟩ := a
        simp only at hsp
        subst hsp
        have hadd : ∀ k, Addr.add ⟨b, o, none⟩ k = ⟨b, o + k, none⟩ := by
          intro k
          unfold Addr.add
          split
          · subst k; rfl
          · rfl
        refine .inr ⟨b, o, rfl, ?_, fun i hi j u hu => ?_⟩
        · have := cell_lt c0
          rwa [hadd] at this
        · rw [hlen] at hi
          have hj : j = 0 := by
            rcases j with _ | j
            · rfl
            · simp [ocT] at hu
          subst hj
          have e1 : atR ocT ((List.range len).map g) i = g i := by rw [atR_eq _ i (by rw [hlen]; exact hi)]; simp
          have hc := (hg i hi).1
          rw [hadd] at hc
          have hu2 : Value.slice (atR ocT ((List.range len).map g) i).a (atR ocT ((List.range len).map g) i).l.length (atR ocT ((List.range len).map g) i).cap = u := Option.some.inj hu
          show W.cell? ⟨b, o + i * 1 + 0, none⟩ = _
          rw [show o + i * 1 + 0 = o + i by omega, hc, ← hu2, e1]
    · obtain ⟨i, hi, rfl⟩ := List.mem_map.1 hs
      exact (hg i (List.mem_range.1 hi)).2
end Go.Proofs.Ytcklmemnjchdcaa

namespace Go.Proofs.Ytcklmemnjchdcaa
open Go.ChangeShapes Go.WideShapes Go.ChangeAt Go.RowKit
set_option linter.unusedVariables false
set_option maxRecDepth 100000

theorem rollAny_lifted (os : Os) (started : os.Started) (H : Type) (enc : TypeId × Value → H) :
    ReturnsInHanded {} Try.checked os 5 .any (Rows.rollAnySpec.pre6 enc Try.prog Try.f5 [] false) (Rows.rollAnySpec.post enc Try.prog Try.f5 false true false false) :=
  lift (C := Try.checked) (s := Rows.rollAnySpec) own (by kernel_rfl) Try.func5 laidOut rfl rfl Try.underlying4 (by kernel_rfl)
    (fun H ds hd => by match ds, hd with | [d1, d2, d3], _ => rfl) os started H enc
    (ChangeSpec.witness6 (enc := enc) (C := Try.checked) false ⟨#[], #[.slice none 0 0, (.agg (Array.replicate 292 (.int .i64 0))), .int .u8 0], []⟩ 8 (by kernel_rfl) (by kernel_rfl) (by kernel_rfl) (by kernel_rfl))
    (fun W base args ds ps hval0 hA0 => by
      have hval : ∀ (j : Nat) t v, Try.f5.params[j]? = some t → args[j]? = some v → Value.okWide Try.prog W .any base t v := hval0
      have hA : DataW.TrodAll enc Try.prog W 0 (fun _ => true) true Try.f5.params.toList args.toList ds ps := hA0
      rw [Try.params5] at hA hval
      obtain ⟨v0, s0, d0, e0, p0, q0, g0, h0, r0⟩ := args_cons hA
      obtain ⟨v1, s1, d1, e1, p1, q1, rfl, h1, r1⟩ := args_cons r0
      obtain ⟨v2, s2, d2, e2, p2, q2, rfl, h2, r2⟩ := args_cons r1
      obtain ⟨rfl, _, _⟩ := trodAll_nil r2
      obtain rfl : args = #[v0, v1, v2] := by cases args; simp_all
      obtain ⟨L0, a0, k0, rfl, c0, m0, R0, T0⟩ := octll_of (hval 0 53 v0 rfl rfl) h0
      obtain ⟨c1, F1, rfl, N1⟩ := mk_of (hval 1 34 v1 rfl rfl) h1
      obtain ⟨z, rfl, _, _, wz⟩ := open_int Try.underlying5 (hval 2 5 v2 rfl rfl) h2
      have bz := bounds_u8 wz
      exact rollAny a0 k0 L0 c0 m0 c1 F1 N1 z bz.1 (by have := bz.2; omega) W R0 T0)

theorem rollAny_holds : Rows.RollAnySaid :=
  OpenClaim.holds_of_wide 5 Try.f5 rfl rfl rfl rfl rfl rfl rfl ⟨rfl, rfl, rfl, rfl, rfl⟩ rfl rfl rfl rfl rfl (by kernel_rfl) Try.func5 (by kernel_rfl)
    (of_decide_eq_true (by kernel_rfl)) (by unfold Func.isWrapper; rw [if_neg (of_decide_eq_false (by kernel_rfl))]; exact ⟨rfl, rfl⟩)
    (fun os started H enc _ => rollAny_lifted os started H enc)
#print axioms rollAny_holds
end Go.Proofs.Ytcklmemnjchdcaa
