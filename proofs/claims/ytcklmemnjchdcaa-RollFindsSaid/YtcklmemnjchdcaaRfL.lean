/-
  RollFinds answers true for any size, any lists of entries and either choice, and changes nothing that was there: whatever went to the log since a mark, all that is whole is found, and applied, and the place is behind it; what has no end is not. For every input, without a condition.
-/
import Derived.Test.YtcklmemnjchdcaaRfK
import Derived.Test.YtcklmemnjchdcaaRfZ

/-
  Layer 20: whatever went to the log since a mark, all that is whole is found, and applied, and the place is behind it; what has no end is not.
-/

namespace Go.Proofs.Ytcklmemnjchdcaa
open Go.RowKit Go.Maps
set_option linter.unusedVariables false
set_option linter.unusedSimpArgs false

theorem z6 (s : Int) (h0 : 0 ≤ s) (h1 : s ≤ 255) : 0 ≤ s.tmod 6 ∧ s.tmod 6 ≤ 5 ∧ s.tmod 6 = s % 6 := by
  have : s.tmod 6 = s % 6 := Int.tmod_eq_emod_of_nonneg h0
  omega

set_option maxRecDepth 100000 in
set_option maxHeartbeats 16000000 in
theorem rollFinds (s : Int) (hs0 : 0 ≤ s) (hs1 : s ≤ 255) (lp : Option Addr) (lc : Nat) (Ls : List EnS) (h1 : Ls.length ≤ lc) (h2 : lc ≤ maxLen) (op : Bool) (w : World) (RX : RowOf esT w lp Ls) (hX : ∀ x ∈ Ls, x.there w) :
    Calls Try.prog 3 #[.int .u8 s, .slice lp Ls.length lc, .bool op] w fun e w' => e = .returned (.bool true) ∧ Below w.heap.size w w' := by
  have KA := hid (fun w => alive20 w)
  have hz := z6 s hs0 hs1
  have RXh := hid RX
  have hXh := hid hX
  have hl63 : (Ls.length : Int) ≤ 9223372036854775807 := by unfold maxLen at h2; omega
  have hcap := hid (And.intro h1 h2)
  clear h1 h2 RX hX
  go_enter Try.func3, Try.ntmps3
  go_wp2_with fail
  refine (KA.out _).mono ?_
  rintro e w1 ⟨rfl, hb1⟩
  have D1 := hid hb1
  have RX1 := hid (RowOf.more RXh.out hb1)
  have hX1 := hid (fun x hx => (hXh.out x hx).more hb1)
  clear hb1 KA RXh hXh
  go_wp2_with fail
  generalize hzz : 4 + s % 6 = z at *
  have hz1 : 4 ≤ z ∧ z ≤ 9 := by omega
  have hok : okB 8 z = true := by unfold okB; simp; omega
  have hsec : secI 8 z = 9 + 8 * z := by unfold secI; rw [if_pos hok]
  have KS := fun w => lsectors_any 8 z w
  rw [hsec] at KS
  have b2 := below_al1 w1 (.cells #[.int .i64 8, .int .i64 z] 25)
  have B7 := hid (Blk.new w1 #[.int .i64 8, .int .i64 z] 25)
  have D2 := hid (below2 D1.out b2 D1.out.size)
  have RX2 := hid (RowOf.more RX1.out b2)
  have hX2 := hid (fun x hx => (hX1.out x hx).more b2)
  have hg7 := hid D1.out.size
  clear b2 D1 RX1 hX1 hzz hz hs0 hs1 hsec
  generalize w1.alloc (.cells #[.int .i64 8, .int .i64 z] 25) = W2 at *
  generalize w1.heap.size = g7 at *
  refine (KS _).mono ?_
  rintro e w3 ⟨rfl, hb3⟩
  have D3 := hid (below2 D2.out hb3 D2.out.size)
  have B73 := hid (B7.out.more hb3)
  have RX3 := hid (RowOf.more RX2.out hb3)
  have hX3 := hid (fun x hx => (hX2.out x hx).more hb3)
  have KN := hid (dnew_any (9 + 8 * z) w3)
  clear hb3 D2 RX2 hX2 KS B7
  go_wp2_with fail
  refine KN.out.mono ?_
  rintro e w4 ⟨Lz, rfl, DD, ND, hb4⟩
  obtain ⟨N, hN⟩ : ∃ N, N = sectorsN (9 + 8 * z) := ⟨_, rfl⟩
  have hNz : (N : Int) = 9 + 8 * z := by rw [hN]; unfold sectorsN; omega
  rw [← hN] at DD ND
  have D4 := hid (below2 D3.out hb4 D3.out.size)
  have B74 := hid (B73.out.more hb4)
  have RX4 := hid (RowOf.more RX3.out hb4)
  have hX4 := hid (fun x hx => (hX3.out x hx).more hb4)
  have hlo := hid (show g7 < w3.heap.size from B73.out.lt)
  have hR0 := hid (show ∀ x : Int, 0 ≤ x → x < (N : Int) → (((newM w3.heap.size N Lz).cur x).l) = zerosN 256 from fun x h0 h1 => by
    show (ocA Lz x.toNat).l = _
    exact ND.Z _ (ocA_mem Lz x.toNat (by have := ND.S; show x.toNat < Lz.length; have h3 : Lz.length = N := this; omega)))
  have hQ0 := hid (show Quiet (newM w3.heap.size N Lz) N (fun x => ((newM w3.heap.size N Lz).cur x).l) from ⟨rfl, rfl, ND.S, fun _ => rfl⟩)
  have hT0 := hid (show Soft (newM w3.heap.size N Lz) 0 from ⟨rfl, Nat.le_refl _, Nat.le_refl _⟩)
  have DDh := hid DD
  have hNh := hid hNz
  have lo3 := hid (show (∀ b' o, lp = some ⟨b', o, none⟩ → Ls.length ≠ 0 → b' < w3.heap.size) ∧ (∀ x ∈ Ls, ∀ b' o, x.a = some ⟨b', o, none⟩ → x.l ≠ [] → b' < w3.heap.size) from ⟨fun b' o e hn => by
    rcases RX3.out with h0 | ⟨b2, o2, e2, R2⟩
    · exact absurd h0 hn
    · rw [e] at e2; cases e2; exact R2.lt, fun x hx b' o e hne => by
    rcases (hX3.out x hx).row with h0 | ⟨b2, o2, e2, R2⟩
    · exact absurd (List.eq_nil_of_length_eq_zero h0) hne
    · rw [e] at e2; cases e2; exact R2.lt⟩)
  clear hb4 D3 B73 RX3 hX3 KN DD ND hN hNz
  obtain ⟨m0, hm0⟩ : ∃ m, m = newM w3.heap.size N Lz := ⟨_, rfl⟩
  rw [← hm0] at hQ0 hT0 DDh hR0
  clear hm0
  generalize w3.heap.size = H3 at *
  generalize H3 + 3 = bd at *
  -- the mark
  obtain ⟨M, hM⟩ : ∃ M, M = M7 := ⟨_, rfl⟩
  have hbu := hid (fun ρ dst ty pos af x y hx hy w => (hM ▸ mb7 ρ dst ty pos af x y hx hy w : (execOp ρ { dst := dst, op := .build 34 #[(0, x), (1, y)], type := ty, pos := pos, after := af, guard := none }).run Try.prog w = .ok (.value (.agg M)) w))
  have hMn := hid (show Nums M .i64 292 F7a from hM ▸ n7a)
  have hMc := hid (show M.setIfInBounds 45 (.int .i64 9) = C7 from by rw [hM]; rfl)
  clear hM
  obtain ⟨Zm, hZm⟩ : ∃ Z, Z = zerosM := ⟨_, rfl⟩
  have hal := hid (fun ρ dst ty pos af W => (hZm ▸ malloc7 ρ dst ty pos af W : (execOp ρ { dst := dst, op := .alloc 34, type := ty, pos := pos, after := af, guard := none }).run Try.prog W = .ok (.value (.pointer (some ⟨W.heap.size, 0, none⟩))) (W.alloc (.cells Zm 34))))
  have hms := hid (show M.size = 292 from hMn.out.size)
  have hmo := hid (show M.all (·.oneCell') = true from hMn.out.one)
  have BF := Blk.new w4 Zm 34
  have hzs : Zm.size = M.size := by rw [hms.out, hZm]; exact zm_size
  have th := BF.there (n := M.size) hzs.symm
  have BM := hid (BF.whole9 (C := M) hzs)
  have ba := below_al1 w4 (.cells Zm 34)
  have SZ := sole_setCells (S := fun k => k = w4.heap.size) rfl M.toList 0 (w4.alloc (.cells Zm 34))
  have b5 := hid (below_cells (ba.mono (Nat.le_refl _)) (Nat.le_refl _) 0 M.toList)
  clear BF hzs ba SZ hZm
  go_wp2_with (first | (refine Go.Great.wpList_runTo rfl (some 37) rfl _ _ (hbu.out _ _ _ _ _ _ _ rfl rfl _) ?_) | (refine Go.Great.wpList_runTo rfl (some 9) rfl _ _ (hal.out _ _ _ _ _ _) ?_; refine wpList_store_mid rfl 34 _ _ rfl w4.heap.size 0 M rfl rfl th (by rw [marktab, hms.out]) hmo.out ?_; generalize World.setCells _ _ _ _ = W5 at *; clear th hal hbu; have l9 := BM.out.lt; have f9 := BM.out.frz; have c45 := (BM.out.cell 45).trans (hMn.out.get 45 (by omega))))
  have D5 := hid (below2 D4.out b5.out D4.out.size)
  have B75 := hid (B74.out.more b5.out)
  have RX5 := hid (RowOf.more RX4.out b5.out)
  have hX5 := hid (fun x hx => (hX4.out x hx).more b5.out)
  have DD5 := hid (DDh.out.more b5.out)
  have hlo4 := hid (show H3 < w4.heap.size from by have := DDh.out.kk _ (.inl rfl); have h2 := DDh.out.klt _ this; have h3 := this.1; omega)
  have SC := Sole.setCell (S := fun k => k = w4.heap.size) W5 (b := w4.heap.size) (o := 45) (.int .i64 9) rfl
  have B96 := BM.out.set 45 (.int .i64 9) (by rw [hms.out]; omega)
  rw [hMc.out] at B96
  have D6 := hid (Below.setCell (p := ⟨w4.heap.size, 45, none⟩) D5.out (by show w.heap.size ≤ w4.heap.size; exact D4.out.size) (.int .i64 9))
  have hl47 := hid (show g7 < w4.heap.size from B74.out.lt)
  have B76 := hid (B75.out.sole SC (by show ¬ g7 = w4.heap.size; have := hl47.out; omega))
  have lo4 := hid (show (∀ b' o, lp = some ⟨b', o, none⟩ → Ls.length ≠ 0 → b' < w4.heap.size) ∧ (∀ x ∈ Ls, ∀ b' o, x.a = some ⟨b', o, none⟩ → x.l ≠ [] → b' < w4.heap.size) from ⟨fun b' o e hn => by have := lo3.out.1 b' o e hn; have := hlo4.out; omega, fun x hx b' o e hn => by have := lo3.out.2 x hx b' o e hn; have := hlo4.out; omega⟩)
  have RX6 := hid (RowP.apart RX5.out SC (fun b' o e hn (h : b' = w4.heap.size) => by have := lo4.out.1 b' o e hn; omega))
  have hX6 := hid (fun x hx => (show EnS.there _ x from ⟨RowP.apart (hX5.out x hx).row SC (fun b' o e hn (h : b' = w4.heap.size) => by have := lo4.out.2 x hx b' o e (fun h0 => hn (by rw [h0]; rfl)); omega), (hX5.out x hx).h1, (hX5.out x hx).h2⟩))
  have DD6 := hid (DD5.out.kept SC (fun k hk (e : k = w4.heap.size) => by have := hk.2; omega))
  replace B96 := hid B96
  clear D5 B75 RX5 hX5 DD5 SC BM l9 f9 c45 D4 B74 RX4 hX4 DDh b5 hMn hMc hms hmo
  generalize W5.setCell _ _ = W6 at *
  obtain ⟨g9, hg9⟩ : ∃ g, g = w4.heap.size := ⟨_, rfl⟩
  rw [← hg9] at B96 hl47 lo4 hlo4 DD6 ⊢
  clear hg9
  obtain ⟨C9, hC9⟩ : ∃ C, C = C7 := ⟨_, rfl⟩
  rw [← hC9] at B96
  have NC := hid (show Nums C9 .i64 292 F7 from hC9 ▸ n7)
  clear hC9
  obtain ⟨cm, hcm⟩ : ∃ cm, cm = C9.extract 36 292 := ⟨_, rfl⟩
  have hcn := hid (show Nums cm .i64 256 (fun j => F7 (36 + j)) from hcm ▸ map_nums NC.out)
  have hcs := hid hcn.out.size
  obtain ⟨cp, hcp⟩ : ∃ c : Array Value, c = #[.int .i64 2, .int .i64 1, .int .i64 0] := ⟨_, rfl⟩
  obtain ⟨Z3, hZ3⟩ : ∃ c : Array Value, c = #[.int .i64 0, .int .i64 0, .int .i64 0] := ⟨_, rfl⟩
  obtain ⟨Z2, hZ2⟩ : ∃ c : Array Value, c = Array.replicate 256 (.int .i64 0) := ⟨_, rfl⟩
  have hcps := hid (show cp.size = 3 by rw [hcp]; rfl)
  have hz3s := hid (show Z3.size = 3 by rw [hZ3]; rfl)
  have hz2s := hid (show Z2.size = 256 by rw [hZ2]; simp)
  have hcpo := hid (show cp.all (·.oneCell') = true by rw [hcp]; simp [Value.oneCell'])
  have hrm := hid (fun (W : World) (hb : Below W6.heap.size W6 W) => show W.rangeAt g9 36 cm.toList from fun j v hv => by
    have hj : j < 256 := by
      have := (List.getElem?_eq_some_iff.1 hv).1
      simpa [hcs.out] using this
    have hv' : (C9.extract 36 292)[j]? = some v := by rw [← hcm]; simpa using hv
    rw [Array.getElem?_extract, if_pos (by rw [NC.out.size]; omega)] at hv'
    rw [(B96.out.more hb).cell]
    exact hv')
  have hrp := hid (fun (W : World) (hb : Below W6.heap.size W6 W) => show W.rangeAt g9 1 cp.toList from fun j v hv => by
    have h1 := ((B96.out.more hb).cell 1).trans (NC.out.get 1 (by omega))
    have h2 := ((B96.out.more hb).cell 2).trans (NC.out.get 2 (by omega))
    have h3 := ((B96.out.more hb).cell 3).trans (NC.out.get 3 (by omega))
    rw [hcp] at hv
    rcases j with _ | _ | _ | j
    · cases hv; exact h1
    · cases hv; exact h2
    · cases hv; exact h3
    · simp at hv)
  have hal2 := hid (fun ρ dst ty pos af W => (hZ2 ▸ alloc256n ρ dst ty pos af W : (execOp ρ { dst := dst, op := .alloc 32, type := ty, pos := pos, after := af, guard := none }).run Try.prog W = .ok (.value (.pointer (some ⟨W.heap.size, 0, none⟩))) (W.alloc (.cells Z2 32))))
  have hal3 := hid (fun ρ dst ty pos af W => (hZ3 ▸ palloc7 ρ dst ty pos af W : (execOp ρ { dst := dst, op := .alloc 30, type := ty, pos := pos, after := af, guard := none }).run Try.prog W = .ok (.value (.pointer (some ⟨W.heap.size, 0, none⟩))) (W.alloc (.cells Z3 30))))
  have hcp' := hid hcp
  have hcm' := hcm
  clear hcp hZ2 hcm
  generalize hV : tab7 g9 cm cp = V
  refine wp_region_inv 9 (fun D vs wx => IF7 W6 cm cp Z3 Z2 V D vs wx) (by kernel_rfl) (by kernel_rfl) ?h0 ?hstep ?hend
  case h0 => exact ⟨Vals.nil, (Below.refl _ _).drew, (fun h => by cases h), (fun h => by cases h), (fun h => by cases h), (fun h => by cases h), (fun h => by cases h)⟩
  case hstep =>
    intro j o hj ho D vs ax wx hDj hD hv hbase H
    rcases (show j = 0 ∨ j = 1 ∨ j = 2 ∨ j = 3 ∨ j = 4 ∨ j = 5 ∨ j = 6 ∨ j = 7 ∨ j = 8 by omega) with rfl | rfl | rfl | rfl | rfl | rfl | rfl | rfl | rfl
    all_goals
      simp only [List.getElem?_cons_zero, List.getElem?_cons_succ, Option.some.injEq] at ho
      subst ho
    · have e9 := at_base hbase 9 (by kernel_rfl) (v := .pointer (some ⟨g9, 0, none⟩)) rfl
      exact StepOf.value (.pointer (some ⟨g9, 36, none⟩)) (wanted_plain rfl _) (by simp [execOp, Act.eval, e9, go_sem]) (H.quiet 0 _ (by omega) (by rw [← hV]; rfl))
    · have e40 := at_done H.vals hv (hD 0 (by kernel_rfl)) 40 (by kernel_rfl) (v := .pointer (some ⟨g9, 36, none⟩)) (by rw [← hV]; rfl)
      exact StepOf.value (.agg cm) (wanted_plain rfl _) (run_load_at _ _ _ 32 _ rfl g9 36 (eval_get e40) cm _ (hrm.out _ H.low) Try.underlying32 rfl (by rw [maptab, hcs.out])) (H.quiet 1 _ (by omega) (by rw [← hV]; rfl))
    · have e9 := at_base hbase 9 (by kernel_rfl) (v := .pointer (some ⟨g9, 0, none⟩)) rfl
      exact StepOf.value (.pointer (some ⟨g9, 1, none⟩)) (wanted_plain rfl _) (by simp [execOp, Act.eval, e9, go_sem]) (H.quiet 2 _ (by omega) (by rw [← hV]; rfl))
    · have e42 := at_done H.vals hv (hD 2 (by kernel_rfl)) 42 (by kernel_rfl) (v := .pointer (some ⟨g9, 1, none⟩)) (by rw [← hV]; rfl)
      exact StepOf.value (.agg cp) (wanted_plain rfl _) (run_load_at _ _ _ 30 _ rfl g9 1 (eval_get e42) cp _ (hrp.out _ H.low) Try.underlying30 rfl (by rw [hcps.out]; kernel_rfl)) (H.quiet 3 _ (by omega) (by rw [← hV]; rfl))
    · exact StepOf.value (.slice (some ⟨wx.heap.size, 0, none⟩) 4 4) (wanted_plain rfl _) (by simp [execOp, Act.eval, go_sem]) (H.set4 (by rw [← hV]; rfl) 3)
    · exact StepOf.value _ (wanted_plain rfl _) (hal2.out _ _ _ _ _ _) (H.set5 (by rw [← hV]; rfl) hDj _)
    · exact StepOf.value _ (wanted_plain rfl _) (hal3.out _ _ _ _ _ _) (H.set6 (by rw [← hV]; rfl) hDj _)
    · obtain ⟨g5, e5, _, B5⟩ := H.b5 (hD 5 (by kernel_rfl))
      have e10 : ax.eval (.tmp 10) = .pointer (some ⟨g5, 0, none⟩) := eval_of (by rw [← e5]; exact hv 5 10 (hD 5 (by kernel_rfl)) (by kernel_rfl))
      have e41 := at_done H.vals hv (hD 1 (by kernel_rfl)) 41 (by kernel_rfl) (v := .agg cm) (by rw [← hV]; rfl)
      exact StepOf.skip (wanted_plain rfl _) (run_store_at _ _ _ 32 _ _ rfl g5 cm e10 (eval_get e41) (B5.there (n := cm.size) (by rw [ite_size hcs.out hz2s.out, hcs.out])) (by rw [maptab, hcs.out]) hcn.out.one) (H.set7 (by rw [← hV]; rfl) (hD 5 (by kernel_rfl)) hcs.out hz2s.out hcps.out hz3s.out e5)
    · obtain ⟨g6, e6, _, B6⟩ := H.b6 (hD 6 (by kernel_rfl))
      have e11 : ax.eval (.tmp 11) = .pointer (some ⟨g6, 0, none⟩) := eval_of (by rw [← e6]; exact hv 6 11 (hD 6 (by kernel_rfl)) (by kernel_rfl))
      have e43 := at_done H.vals hv (hD 3 (by kernel_rfl)) 43 (by kernel_rfl) (v := .agg cp) (by rw [← hV]; rfl)
      exact StepOf.skip (wanted_plain rfl _) (run_store_at _ _ _ 30 _ _ rfl g6 cp e11 (eval_get e43) (B6.there (n := cp.size) (by rw [ite_size hcps.out hz3s.out, hcps.out])) (by rw [hcps.out]; kernel_rfl) hcpo.out) (H.set8 (by rw [← hV]; rfl) (hD 6 (by kernel_rfl)) hcs.out hz2s.out hcps.out hz3s.out e6)
  case hend =>
    intro D vs W7 hall H
    have v0 := H.vals 0 _ (hall 0 (by omega)) (by rw [← hV]; rfl)
    have v1 := H.vals 1 _ (hall 1 (by omega)) (by rw [← hV]; rfl)
    have v2 := H.vals 2 _ (hall 2 (by omega)) (by rw [← hV]; rfl)
    have v3 := H.vals 3 _ (hall 3 (by omega)) (by rw [← hV]; rfl)
    obtain ⟨gf, v4, hf0, Bf⟩ := H.b4 (hall 4 (by omega))
    obtain ⟨g10, v5, h100, B10⟩ := H.b5 (hall 5 (by omega))
    obtain ⟨g11, v6, h110, B11⟩ := H.b6 (hall 6 (by omega))
    rw [hall 7 (by omega), if_pos rfl] at B10
    rw [hall 8 (by omega), if_pos rfl] at B11
    simp only [puts, List.range, List.range.loop, List.foldl_cons, List.foldl_nil, List.getElem?_toArray, List.getElem?_cons_succ, List.getElem?_cons_zero, Option.bind_some, Option.bind_none, Act.put, List.setIfInBounds_toArray, List.set_cons_succ, List.set_cons_zero, v0, v1, v2, v3, v4, v5, v6]
    simp only [List.drop_succ_cons, List.drop_zero]
    have hlow := hid H.low
    clear v0 v1 v2 v3 v4 v5 v6 hall H hV
    rw [hcp'.out] at B11
    have b8 := below_al1 W7 (.cells #[.int .i64 2, .int .i64 1, .int .i64 0] 30)
    have B15 := hid (Blk.new W7 #[.int .i64 2, .int .i64 1, .int .i64 0] 30)
    have D8 := hid (below2 (below2 D6.out hlow.out D6.out.size) b8 (Nat.le_trans D6.out.size hlow.out.size))
    have B78 := hid ((B76.out.more hlow.out).more b8)
    have B98 := hid ((B96.out.more hlow.out).more b8)
    have RX8 := hid (RowOf.more (RowOf.more RX6.out hlow.out) b8)
    have hX8 := hid (fun x hx => ((hX6.out x hx).more hlow.out).more b8)
    have DD8 := hid ((DD6.out.more hlow.out).more b8)
    have Bf8 := hid (Bf.more b8)
    have B108 := hid (B10.more b8)
    have B118 := hid (B11.more b8)
    have hgs := hid (show g9 < W6.heap.size ∧ W6.heap.size ≤ gf ∧ W6.heap.size ≤ g10 ∧ W6.heap.size ≤ g11 ∧ gf < W7.heap.size ∧ g10 < W7.heap.size ∧ g11 < W7.heap.size ∧ gf ≠ g10 ∧ gf ≠ g11 ∧ g10 ≠ g11 from ⟨B96.out.lt, hf0, h100, h110, Bf.lt, B10.lt, B11.lt, (fun e => by
      have := blk_size Bf (e ▸ B10); rw [hcs.out] at this; cases this), (fun e => by
      have := blk_size Bf (e ▸ B11); cases this), (fun e => by
      have := blk_size B10 (e ▸ B11); rw [hcs.out] at this; cases this)⟩)
    obtain ⟨l11, m11, f11⟩ := B11
    clear b8 Bf B10 hf0 h100 h110 hlow D6 B76 B96 RX6 hX6 DD6 hrm hrp hal2 hal3 hcp' hcps hz3s hz2s hcpo hZ3
    go_wp2_with fail
    clear l11 m11 f11
    generalize hg15 : W7.heap.size = g15 at *
    have h15 := hid (show g15 < (W7.alloc (.cells #[.int .i64 2, .int .i64 1, .int .i64 0] 30)).heap.size from B15.out.lt)
    generalize W7.alloc (.cells #[.int .i64 2, .int .i64 1, .int .i64 0] 30) = W8 at *
    have h7g := hid (show gf < g15 ∧ g10 < g15 ∧ g11 < g15 by have := hgs.out; omega)
    clear hg15
    obtain ⟨S0, hS0⟩ : ∃ S, S = rst0 C9 F7 := ⟨_, rfl⟩
    have hF7 : F7 0 = 7 := rfl
    have KF := hid (fun (m : DM) (K : Nat → Prop) (W : World) (D : DiskM W bd m K) (R : Int → List UInt8) (Q : Quiet m N R) (c : Nat) (T : Soft m c) (hR : ∀ x, 0 ≤ x → x < (N : Int) → (R x).length = 256) => rforward_any m bd K W D Q T hR 8 z hNh.out (by have := hNh.out; omega) C9 F7 NC.out (fit7 hz1.1 (by omega)))
    rw [hF7, ← hS0] at KF
    have hs0c : S0.c = cm := by rw [hS0, hcm']; rfl
    have hst : FDat z S0 Ls.length 0 (fun x => ((m0.cur x).l)) ⟨2, 1, 0⟩ [5, 1, 3, 4] 0 S0 := ⟨by rw [hS0]; exact first_inv hz1.1 hz1.2 hNh.out hR0.out, ⟨_, by rw [hs0c]; exact hcn.out⟩, .inl (by rw [hS0]; exact ⟨rfl, rfl, rfl, rfl⟩), Nat.zero_le _, by decide⟩
    have hfp : S0.fp = ⟨2, 1, 0⟩ := by rw [hS0]; rfl
    have hfb : S0.fb = 0 := by rw [hS0]; rfl
    obtain ⟨KB, hKB⟩ : ∃ KB : Nat → Prop, KB = fun k => (H3 ≤ k ∧ k < g9) ∨ W8.heap.size ≤ k := ⟨_, rfl⟩
    have hKBn := hid (fun k (h : KB k) => show (H3 ≤ k ∧ k < g9) ∨ W8.heap.size ≤ k by rw [hKB] at h; exact h)
    have hKBi := hid (fun k (h : (H3 ≤ k ∧ k < g9) ∨ W8.heap.size ≤ k) => show KB k by rw [hKB]; exact h)
    have hsm : FMem W8 W8 KB bd N 0 (fun x => ((m0.cur x).l)) g10 g11 g15 S0.c ⟨2, 1, 0⟩ S0.fp [5, 1, 3, 4] (some ⟨gf, 0, none⟩) 4 := by
      have hg := hgs.out
      have h5 := h15.out
      have h96 := B98.out.lt
      refine ⟨Sole.refl _ _, ⟨m0, _, DD8.out, fun k hk => hKBi.out k (.inl hk), hQ0.out, hT0.out, fun b' o e hk => by cases e; have := hk.2; omega⟩, by rw [hs0c]; exact B108.out, B118.out, by rw [hfp]; exact B15.out, ?_, fun b' o e => by cases e; refine ⟨hg.2.2.2.2.2.2.2.1, hg.2.2.2.2.2.2.2.2.1, ?_⟩; have := h7g.out; omega, Nat.le_refl _, by unfold maxLen; omega, nofun⟩
      refine .inr ⟨gf, 0, rfl, Bf8.out.lt, fun i hi j u hu => ?_⟩
      have hj : j = 0 := by
        rcases j with _ | j
        · rfl
        · simp [inT] at hu
      subst hj
      have hi4 : i < 4 := hi
      rw [show 0 + i * inT.sz + 0 = i by show 0 + i * 1 + 0 = i; omega, Bf8.out.cell i]
      rcases (show i = 0 ∨ i = 1 ∨ i = 2 ∨ i = 3 by omega) with rfl | rfl | rfl | rfl <;> exact hu
    have hsth := hid hst
    have hsmh := hid hsm
    clear hst hsm hS0 hs0c hfp hKB hcm' hR0 hQ0 hT0 DD8 B108 B118 B15 Bf8 hcn hcs
    have hFG := hid (show FG KB g10 g11 g15 from by
      have hg := hgs.out
      have h5 := h15.out
      have h7 := h7g.out
      have h96 := B98.out.lt
      refine ⟨fun h => ?_, fun h => ?_, fun h => ?_, hg.2.2.2.2.2.2.2.2.2, by omega, by omega⟩ <;> rcases hKBn.out _ h with q | q <;> omega)
    have hwH := hid (show w.heap.size ≤ H3 by have := hg7.out; have := hlo.out; omega)
    have hKBw := hid (fun k (h : KB k) => show w.heap.size ≤ k by have := hwH.out; have := D8.out.size; rcases hKBn.out k h with q | q <;> omega)
    have hKB9 := hid (fun k (h : KB k ∨ k = g10 ∨ k = g11 ∨ k = g15) => show (H3 ≤ k ∧ k ≠ g9) by
      have hg := hgs.out
      have h7 := h7g.out
      have h4 := hlo4.out
      have h5 := h15.out
      rcases h with h | h
      · rcases hKBn.out k h with q | q <;> omega
      · rcases h with h | h | h <;> omega)
    go_loopw [12, 13, 14, 16] (fun sf sn sb si wr => ∃ (i : Nat) (R : Int → List UInt8) (p : Plc) (fr : List Int) (sq : Nat) (s' : RSt) (fp : Option Addr) (fcap : Nat), i ≤ Ls.length ∧ i ≤ 5 ∧ si = .int .i64 (i : Int) ∧ sn = .int .i64 (sq : Int) ∧ sb = .int .i64 s'.fb ∧ sf = .slice fp fr.length fcap ∧ FDat z S0 Ls.length i R p fr sq s' ∧ FMem W8 wr KB bd N (80 * i) R g10 g11 g15 s'.c p s'.fp fr fp fcap) (fun _ _ _ si _ => 6 - (intOf si).toNat)
    case atStart => exact ⟨0, _, ⟨2, 1, 0⟩, [5, 1, 3, 4], 0, S0, some ⟨gf, 0, none⟩, 4, Nat.zero_le _, by omega, rfl, rfl, by rw [hfb], rfl, hsth.out, hsmh.out⟩
    case round =>
      obtain ⟨i, R, p, fr, sq, s', fp, fcap, hi, hi5, rfl, rfl, rfl, rfl, DA, WM⟩ := hrel
      obtain ⟨WR, rfl⟩ : ∃ W, W = wr := ⟨_, rfl⟩
      have hi5h := hid hi5
      have hDA := hid DA
      have hWT := hid WM
      have Dt := hid (D8.out.trans (WM.S.below (B := w.heap.size) D8.out.size (fun k hk => by have := (hKB9.out k hk).1; have := hwH.out; omega)))
      have B7t := hid (B78.out.sole WM.S (fun hk => by have := (hKB9.out _ hk).1; have := hlo.out; omega))
      have B9t := hid (B98.out.sole WM.S (fun hk => (hKB9.out _ hk).2 rfl))
      clear DA WM hsth hsmh
      by_cases hlt : i < Ls.length
      · have hlti : (i : Int) < (Ls.length : Int) := by omega
        by_cases hlt5 : i < 5
        · have hlt5i : (i : Int) < 5 := by omega
          have hn0 : Ls.length ≠ 0 := by omega
          obtain ⟨be, oe, hlp, re⟩ := RowP.row (RowP.apart RX8.out hWT.out.S (fun b' o e hn hk => by have h1 := lo3.out.1 b' o e hn; have h2 := (hKB9.out b' hk).1; omega)) hn0
          subst hlp
          have hxm : esA Ls i ∈ Ls := atR_mem (T := esT) Ls i hlt
          have hx : EnS.there WR (esA Ls i) := ⟨RowP.apart (hX8.out _ hxm).row hWT.out.S (fun b' o e hn hk => by have h1 := lo3.out.2 _ hxm b' o e (fun h0 => hn (by rw [h0]; rfl)); have h2 := (hKB9.out b' hk).1; omega), (hX8.out _ hxm).h1, (hX8.out _ hxm).h2⟩
          have z0 : WR.cell? ⟨be, oe + i, none⟩ = some (.slice (esA Ls i).a (esA Ls i).l.length (esA Ls i).cap) := by
            have := re.at0 hlt (v := .slice (esA Ls i).a (esA Ls i).l.length (esA Ls i).cap) rfl
            simpa [esT] using this
          have KE := hid (entries_any (esA Ls i).a (esA Ls i).cap (esA Ls i).l hx.h1 hx.h2 WR hx.row)
          have hlth := hid hlt
          have hlt5h := hid hlt5
          generalize esA Ls i = x at *
          clear hx hxm re hn0 hi hi5 hlt hlt5
          go_wp2_with fail
          refine KE.out.mono ?_
          rintro e w5 ⟨ve, E, rfl, OE, hE40, hEg, hb5⟩
          obtain ⟨ep, ec, rfl, e1, e2, RE⟩ := RowOwn.open enOk OE
          have WM5 := hid (hWT.out.more hb5)
          have hways := hid (last_ways op Ls.length i hlth.out hlt5h.out)
          obtain ⟨la, hla⟩ : ∃ la, la = (!op || (decide (i + 1 < Ls.length) && decide (i < 4))) := ⟨_, rfl⟩
          rw [← hla] at hways
          have hcl := hid (hDA.out.op.resolve_right (by have := hlth.out; have := hlt5h.out; omega))
          have hE63 : (E.length : Int) ≤ 40 := by omega
          have KW := hid (fun (m : DM) (K : Nat → Prop) (D : DiskM w5 bd m K) (Q : Quiet m N R) (T : Soft m (80 * i)) => rwrite_any m bd K w5 D Q T (by have := hlt5h.out; omega) z hz1.2 hNh.out 7 (by decide) (by decide) S0 s' p fr sq (by have := hDA.out.sqb; have := hlt5h.out; omega) hDA.out.inv hcl.out.1 hcl.out.2.1 hcl.out.2.2.1 fp fcap WM5.out.f1 WM5.out.f2 (by have := hDA.out.frb; omega) WM5.out.f4 WM5.out.row ep ec E e1 e2 hE40 hEg RE la)
          have REh := hid RE
          have OEb := hid (fun b' o (e : ep = some ⟨b', o, none⟩) (hn : E.length ≠ 0) => show WR.heap.size ≤ b' by
            rcases OE.form with ⟨_, h0⟩ | ⟨g, cap, h1, h2, _⟩
            · exact absurd (by rw [h0]; rfl) hn
            · obtain ⟨h3, _, _⟩ := Value.slice.inj h1
              rw [e] at h3
              cases h3
              exact h2)
          have e12 := hid (And.intro e1 e2)
          have B75 := hid (B7t.out.more hb5)
          have hE40h := hid hE40
          have hb5h := hid hb5
          replace hla := hid hla
          clear OE RE hEg z0 KE hb5 e1 e2 hE40
          go_upto_region 13 with (fail)
          go_cut [18, 61, 62, 63, 64, 65, 66, 67, 68, 69, 70, 71, 72, 73] (fun s18 s61 s62 s63 s64 s65 s66 s67 s68 s69 s70 s71 s72 s73 wx => s18 = .bool la ∧ wx = w5)
          case first =>
            cases op with
            | false =>
              go_wp2_with fail
              go_meet
              case rel => exact ⟨by rw [hla.out]; rfl, by trivial⟩
            | true =>
              have hi0 := hlt5h.out
              by_cases h1 : i + 1 < Ls.length
              · have h1' : (i : Int) < (Ls.length : Int) - 1 := by omega
                by_cases h2 : i < 4
                · have h2' : (i : Int) < 4 := by omega
                  go_wp2_with fail
                  go_meet
                  case rel => exact ⟨by rw [hla.out]; simp [h1, h2], by trivial⟩
                · have h2' : ¬ (i : Int) < 4 := by omega
                  go_wp2_with fail
                  go_meet
                  case rel => exact ⟨by rw [hla.out]; simp [h2], by trivial⟩
              · have h1' : ¬ (i : Int) < (Ls.length : Int) - 1 := by omega
                go_wp2_with fail
                go_meet
                case rel => exact ⟨by rw [hla.out]; simp [h1], by trivial⟩
          case rest =>
            obtain ⟨rfl, rfl⟩ := hcut
            have hi0 := hlt5h.out
            obtain ⟨m1, K1, hd0, hK1, hQ1, hT1, _⟩ := hWT.out.d
            have hd1 := hd0.more hb5h.out
            have klt1 := hid (fun k (hk : K1 k) => hd0.klt k hk)
            have KW1 := hid (KW.out m1 K1 hd1 hQ1 hT1)
            have hK1h := hid hK1
            obtain ⟨l7, m7, f7⟩ := B75.out
            obtain ⟨l11, m11, f11⟩ := WM5.out.b11
            clear hd1 hd0 hK1 hQ1 hT1 KW
            go_wp2_with fail
            refine KW1.out.mono ?_
            rintro e w6 hP
            clear l7 m7 f7 l11 m11 f11 KW1
            rcases hP with ⟨hnone, rfl, hb6⟩ | ⟨ps, q, rest, va, vr, A, R2, t2, hsome, rfl, S6, WA, hm40, hA40, ⟨m2, K2, D2, hK2, Q2, T2, hva, hvr⟩, OA, OR⟩
            · have hWM6 := hid (WM5.out.more hb6)
              have hb56 := hid (below2 hb5h.out hb6 hb5h.out.size)
              clear hb6
              go_upto_region 15 with (fail)
              have b9 := below_al1 w6 (.cells #[.int .i64 p.seg, .int .i64 p.off, .int .i64 p.next] 30)
              have hWT9 := hid (hWM6.out.more b9)
              have hb9 := hid (below2 hb56.out b9 hb56.out.size)
              generalize w6.alloc (.cells #[.int .i64 p.seg, .int .i64 p.off, .int .i64 p.next] 30) = W9 at *
              have Dt9 := hid (below2 Dt.out hb9.out Dt.out.size)
              have B7t9 := hid (B7t.out.more hb9.out)
              have B9t9 := hid (B9t.out.more hb9.out)
              clear hWT Dt B7t B9t hWM6 WM5 b9 hb56 hb9
              have hWT := hWT9
              have Dt := Dt9
              have B7t := B7t9
              have B9t := B9t9
              clear hWT9 Dt9 B7t9 B9t9
              obtain ⟨m1, K1, hd1, hK1, hQ1, hT1, _⟩ := hWT.out.d
              have KF1 := hid (KF.out m1 K1 W9 hd1 R hQ1 _ hT1 (fun x h0 h1 => hDA.out.inv.len x h0 (by have := hNh.out; omega)))
              have hmi := hid (show (Try.prog.info? 34).map (·.size) = some C9.size by rw [marktab, NC.out.size])
              have B9h := hid B9t.out
              have hK1h := hid hK1
              obtain ⟨l7, m7, f7⟩ := B7t.out
              clear hd1 hK1 hQ1 hT1
              go_wp2_with (refine rwpList_load rfl 34 _ rfl g9 rfl C9 _ B9h.out Try.underlying34 rfl hmi.out ?_)
              refine KF1.out.mono ?_
              rintro e Wf ⟨_, Sf, k, t, hr, hstop, _, _, rfl⟩
              have hts : t = s' := hDA.out.inv.only (by have := hDA.out.sqb; have := hi5h.out; omega) hr hstop
              rw [hts]
              clear hr hstop hts KF1
              have B10f := hid (hWT.out.b10.sole Sf (fun hk => hFG.out.n10 (hK1h.out _ hk)))
              have B15f := hid (hWT.out.b15.sole Sf (fun hk => hFG.out.n15 (hK1h.out _ hk)))
              have Df := hid (Dt.out.trans (Sf.below (B := w.heap.size) Dt.out.size (fun k hk => hKBw.out k (hK1h.out k hk))))
              have hcN := hid hDA.out.c
              obtain ⟨cw, hcw⟩ : ∃ c, c = s'.c := ⟨_, rfl⟩
              rw [← hcw] at hcN B10f ⊢
              clear hcw
              obtain ⟨Gc, NGc⟩ := hcN.out
              have hcws := hid NGc.size
              have NGh := hid NGc
              generalize s'.fb = pb at *
              obtain ⟨ef, hef⟩ : ∃ e, e = s'.fp := ⟨_, rfl⟩
              rw [← hef] at B15f ⊢
              clear hef
              obtain ⟨ps', po', px'⟩ := ef
              obtain ⟨CF, hCF⟩ : ∃ CF, CF = foundC cw ⟨ps', po', px'⟩ pb := ⟨_, rfl⟩
              have hcf := hid (show CF.size = 260 by rw [hCF]; exact foundC_size NGc.size _ _)
              have hce := hid (show CF.all (·.oneCell') = true by rw [hCF]; exact found_one NGc _ _)
              obtain ⟨Z9, hZ9⟩ : ∃ Z, Z = zerosF := ⟨_, rfl⟩
              have h9s : Z9.size = 260 := by rw [hZ9]; simp [zerosF]
              have hal := hid (fun ρ dst ty pos af W => (hZ9 ▸ fallocF ρ dst ty pos af W : (execOp ρ { dst := dst, op := .alloc 43, type := ty, pos := pos, after := af, guard := none }).run Try.prog W = .ok (.value (.pointer (some ⟨W.heap.size, 0, none⟩))) (W.alloc (.cells Z9 43))))
              have BF := Blk.new Wf Z9 43
              have th := BF.there (n := CF.size) (by rw [hcf.out, h9s])
              have FA0 := FoundAt.whole BF h9s NGc.size ⟨ps', po', px'⟩ pb
              rw [← hCF] at FA0 ⊢
              have FA := hid FA0
              have ba := below_al1 Wf (.cells Z9 43)
              have SZ := sole_setCells (S := fun k => k = Wf.heap.size) rfl CF.toList 0 (Wf.alloc (.cells Z9 43))
              have Dz := hid (Df.out.trans ((below_cells (ba.mono (Nat.le_refl _)) (Nat.le_refl _) 0 CF.toList).mono Df.out.size))
              have B10z := hid ((B10f.out.more ba).sole SZ (by show ¬ _; have := B10f.out.lt; omega))
              have B15z := hid ((B15f.out.more ba).sole SZ (by show ¬ _; have := B15f.out.lt; omega))
              clear BF FA0 ba SZ hZ9 h9s hCF Df B10f B15f NGc Sf l7 m7 f7 hWT B9h B7t B9t Dt hcN
              go_wp2_with (refine Go.Great.wpList_runTo rfl (some 24) rfl _ _ (hal.out _ _ _ _ _ _) ?_; refine wpList_store_mid rfl 43 _ _ rfl Wf.heap.size 0 CF rfl rfl th (by rw [foundtab, hcf.out]) hce.out ?_; generalize World.setCells _ _ _ _ = WZ at *; clear th hal)
              generalize Wf.heap.size = g24 at *
              refine rwp_loadAt 32 _ rfl g24 0 rfl cw _ FA.out.range Try.underlying32 rfl (by rw [maptab, hcws.out]) ?_
              rename_i Ka ha
              refine ha _ _ ?_
              clear ha
              simp only [Act.put, List.setIfInBounds_toArray, List.set_cons_zero, List.set_cons_succ]
              go_big_want
              refine rwp_load 32 _ rfl g10 rfl cw _ B10z.out Try.underlying32 rfl (by rw [maptab, hcws.out]) ?_
              rename_i Kb hb
              refine hb _ _ ?_
              clear hb
              simp only [Act.put, List.setIfInBounds_toArray, List.set_cons_zero, List.set_cons_succ]
              go_big_want
              refine rwp_runTo9 _ _ (aeql_run NGh.out _ _ _ _ _ _ _ _ (by rfl) (by rfl) _) ?_
              rename_i Kc hc
              refine hc _ _ ?_
              clear hc
              simp only [Act.put, List.setIfInBounds_toArray, List.set_cons_zero, List.set_cons_succ]
              have y0 := FA.out.s
              have y1 := FA.out.o
              have y2 := FA.out.x
              have y3 := FA.out.b
              have yl := FA.out.lt
              dsimp only at y0 y1 y2 y3
              obtain ⟨l15, m15, f15⟩ := B15z.out
              have hpe : eqPlc ps' po' px' ps' po' px' = true := eqP_self ps' po' px'
              go_wp2_with fail
              go_ret
              exact ⟨by simp, Dz.out⟩
            · obtain ⟨ap, ac, rfl, a1, a2, RA⟩ := RowOwn.open inOk OA
              obtain ⟨rp, rc, rfl, r1, r2, _⟩ := RowOwn.open inOk OR
              obtain ⟨NX, NX1, NX2⟩ := hDA.out.next hlth.out hlt5h.out hsome hm40 (hways.out.elim .inl (fun h => .inr h.2)) WA
              have hWM6 := hid (WM5.out.wrote hFG.out S6 hK1h.out (fun k hk => hKBi.out k (.inr (Nat.le_trans WM5.out.S.size hk))) D2 hK2 Q2 (show Soft m2 (80 * (i + 1)) from ⟨T2.tl, by have := T2.n; omega, by have := T2.q; omega⟩) OR hvr)
              have hcw := hDA.out.c
              have REw := hid (RowP.apart REh.out S6 (fun b' o e hn hk => by
                have h1 := klt1.out b' hk
                have h2 := OEb.out b' o e hn
                omega))
              have RAh := hid RA
              have hNX := hid NX
              have hNX1 := hid NX1
              have hNX2 := hid NX2
              have hw56 := hid (Nat.le_trans WM5.out.S.size S6.size)
              clear S6 WA D2 hK2 Q2 T2 hva hvr OA OR RA NX NX1 NX2 hsome WM5
              go_upto_region 15 with (fail)
              have b9 := below_al1 w6 (.cells #[.int .i64 q.seg, .int .i64 q.off, .int .i64 q.next] 30)
              have B19 := hid (Blk.new w6 #[.int .i64 q.seg, .int .i64 q.off, .int .i64 q.next] 30)
              have hWM9 := hid (hWM6.out.more b9)
              have RE9 := hid (RowP.more REw.out b9)
              have RA9 := hid (RowOf.more RAh.out b9)
              generalize hg19 : w6.heap.size = g19 at *
              have h19 := hid hw56.out
              generalize w6.alloc (.cells #[.int .i64 q.seg, .int .i64 q.off, .int .i64 q.next] 30) = W9 at *
              clear hWM6 b9 hg19 hWT Dt B7t B9t REw RAh
              obtain ⟨e1, e2⟩ := e12.out
              by_cases hcase : la = true ∧ E ≠ []
              · obtain ⟨rfl, hE⟩ := hcase
                obtain ⟨n1, n2, n3⟩ := hNX1.out rfl hE
                obtain ⟨Gc, NGc⟩ := hcw
                have hEl : (0 : Int) < (E.length : Int) := by
                  cases E with
                  | nil => exact absurd rfl hE
                  | cons x l => simp
                have KA := hid (napply_any s'.c Gc NGc ep E.length ec (penAt E) e1 e2 ap A.length ac (inAt A) a1 a2 W9 (en_rowp RE9.out) (in_rowp RA9.out))
                obtain ⟨Gd, NGd⟩ := resA_nums NGc (penAt E) (inAt A) A.length E.length
                have hcs1 := hid NGc.size
                rw [← n1] at NGd KA
                have hds := hid NGd.size
                have hdo := hid NGd.one
                have B10h := hid hWM9.out.b10
                have n2h := hid n2
                have n3h := hid n3
                generalize finA (penAt E) A.length E.length = fa at *
                clear hE NGc NGd n1 n2 n3 a1 a2 r1 r2 e1 e2 hNX1 hNX2
                go_wp2_with (refine rwpList_load rfl 32 _ rfl g10 rfl s'.c _ B10h.out Try.underlying32 rfl (by rw [maptab, hcs1.out]) ?_)
                refine KA.out.mono ?_
                rintro e w10 ⟨rfl, hb10⟩
                have hWM10 := hWM9.out.more hb10
                have hWMa := hid (hWM10.set10 hFG.out t2.c (by rw [hcs1.out, hds.out]))
                have th := hWM10.b10.there (n := t2.c.size) (by rw [hcs1.out, hds.out])
                have B19a := (B19.out.more hb10).sole (sole_setCells (S := fun k => k = g10) rfl t2.c.toList 0 w10) (by show ¬ g19 = g10; have := h19.out; have := h7g.out; have := h15.out; omega)
                have B19h := hid B19a
                clear KA hb10 hWM10 hWM9 B19a B10h
                go_upto_region 18 with (refine wpList_store_mid rfl 32 _ _ rfl g10 0 t2.c rfl rfl th (by rw [maptab, hds.out]) hdo.out ?_; generalize World.setCells _ _ _ _ = Wa at *; clear th)
                have c190 := B19h.out.cell 0
                have c191 := B19h.out.cell 1
                have c192 := B19h.out.cell 2
                obtain ⟨l15, m15, f15⟩ := hWMa.out.b15
                go_upto_region 19 with (fail)
                have hWMb := hid (hWMa.out.set15 hFG.out q.pc)
                have SB := sole_setAll (S := fun k => k = g15) rfl [.int .i64 q.seg, .int .i64 q.off, .int .i64 q.next] 0 Wa
                simp only [setAll, Nat.zero_add, Nat.reduceAdd] at SB
                have B19b := B19h.out.sole SB (by show ¬ g19 = g15; have := h19.out; have := h15.out; omega)
                dsimp only [Plc.pc] at hWMb
                clear c190 c191 c192 l15 m15 f15 hWMa B19h SB
                generalize World.setCell _ _ _ = Wb at *
                have c190 := B19b.cell 0
                have c191 := B19b.cell 1
                have c192 := B19b.cell 2
                obtain ⟨l11, m11, f11⟩ := hWMb.out.b11
                have hWMc := hid (hWMb.out.set11 hFG.out q)
                clear B19b
                go_wp2_with fail
                clear c190 c191 c192 l11 m11 f11 hWMb
                generalize World.setCell _ _ _ = Wc at *
                go_roundw
                case rel => exact ⟨i + 1, R2, q, rest, sq + ps.length, t2, rp, rc, by have := hlth.out; omega, by have := hlt5h.out; omega, by simp, by simp, by rw [n3h.out]; simp, rfl, hNX.out, by rw [n2h.out]; exact hWMc.out⟩
                case measure => have := hlt5h.out; simp [intOf]; omega
              · have hc2 : la = false ∨ E = [] := by
                  cases la with
                  | false => exact .inl rfl
                  | true => right; cases E with
                    | nil => rfl
                    | cons x l => exact absurd ⟨rfl, by simp⟩ hcase
                obtain ⟨n1, n2, n3⟩ := hNX2.out hc2
                have n1h := hid n1
                have n2h := hid n2
                have n3h := hid n3
                have c190 := B19.out.cell 0
                have c191 := B19.out.cell 1
                have c192 := B19.out.cell 2
                obtain ⟨l11, m11, f11⟩ := hWM9.out.b11
                have hWMc := hid (hWM9.out.set11 hFG.out q)
                clear n1 n2 n3 a1 a2 r1 r2 e1 e2 hNX1 hNX2 hcase hcw
                have hc3 : la = false ∨ (la = true ∧ E = []) := by
                  cases la with
                  | false => exact .inl rfl
                  | true => exact .inr ⟨rfl, hc2.resolve_left (by simp)⟩
                clear hc2
                rcases hc3 with rfl | ⟨rfl, rfl⟩
                all_goals
                  go_wp2_with fail
                  clear c190 c191 c192 l11 m11 f11 hWM9
                  generalize World.setCell _ _ _ = Wc at *
                  go_roundw
                  case rel => exact ⟨i + 1, R2, q, rest, sq + ps.length, t2, rp, rc, by have := hlth.out; omega, by have := hlt5h.out; omega, by simp, by simp, by rw [n3h.out], rfl, hNX.out, by rw [n1h.out, n2h.out]; exact hWMc.out⟩
                  case measure => have := hlt5h.out; simp [intOf]; omega
        · have hlt5i : ¬ (i : Int) < 5 := by omega
          clear hlt hi hi5 hlt5
          obtain ⟨m1, K1, hd1, hK1, hQ1, hT1, _⟩ := hWT.out.d
          have KF1 := hid (KF.out m1 K1 WR hd1 R hQ1 _ hT1 (fun x h0 h1 => hDA.out.inv.len x h0 (by have := hNh.out; omega)))
          have hmi := hid (show (Try.prog.info? 34).map (·.size) = some C9.size by rw [marktab, NC.out.size])
          have B9h := hid B9t.out
          have hK1h := hid hK1
          obtain ⟨l7, m7, f7⟩ := B7t.out
          clear hd1 hK1 hQ1 hT1
          go_wp2_with (refine rwpList_load rfl 34 _ rfl g9 rfl C9 _ B9h.out Try.underlying34 rfl hmi.out ?_)
          refine KF1.out.mono ?_
          rintro e Wf ⟨_, Sf, k, t, hr, hstop, _, _, rfl⟩
          have hts : t = s' := hDA.out.inv.only (by have := hDA.out.sqb; have := hi5h.out; omega) hr hstop
          rw [hts]
          clear hr hstop hts KF1
          have B10f := hid (hWT.out.b10.sole Sf (fun hk => hFG.out.n10 (hK1h.out _ hk)))
          have B15f := hid (hWT.out.b15.sole Sf (fun hk => hFG.out.n15 (hK1h.out _ hk)))
          have Df := hid (Dt.out.trans (Sf.below (B := w.heap.size) Dt.out.size (fun k hk => hKBw.out k (hK1h.out k hk))))
          have hcN := hid hDA.out.c
          obtain ⟨cw, hcw⟩ : ∃ c, c = s'.c := ⟨_, rfl⟩
          rw [← hcw] at hcN B10f ⊢
          clear hcw
          obtain ⟨Gc, NGc⟩ := hcN.out
          have hcws := hid NGc.size
          have NGh := hid NGc
          generalize s'.fb = pb at *
          obtain ⟨ef, hef⟩ : ∃ e, e = s'.fp := ⟨_, rfl⟩
          rw [← hef] at B15f ⊢
          clear hef
          obtain ⟨ps', po', px'⟩ := ef
          obtain ⟨CF, hCF⟩ : ∃ CF, CF = foundC cw ⟨ps', po', px'⟩ pb := ⟨_, rfl⟩
          have hcf := hid (show CF.size = 260 by rw [hCF]; exact foundC_size NGc.size _ _)
          have hce := hid (show CF.all (·.oneCell') = true by rw [hCF]; exact found_one NGc _ _)
          obtain ⟨Z9, hZ9⟩ : ∃ Z, Z = zerosF := ⟨_, rfl⟩
          have h9s : Z9.size = 260 := by rw [hZ9]; simp [zerosF]
          have hal := hid (fun ρ dst ty pos af W => (hZ9 ▸ fallocF ρ dst ty pos af W : (execOp ρ { dst := dst, op := .alloc 43, type := ty, pos := pos, after := af, guard := none }).run Try.prog W = .ok (.value (.pointer (some ⟨W.heap.size, 0, none⟩))) (W.alloc (.cells Z9 43))))
          have BF := Blk.new Wf Z9 43
          have th := BF.there (n := CF.size) (by rw [hcf.out, h9s])
          have FA0 := FoundAt.whole BF h9s NGc.size ⟨ps', po', px'⟩ pb
          rw [← hCF] at FA0 ⊢
          have FA := hid FA0
          have ba := below_al1 Wf (.cells Z9 43)
          have SZ := sole_setCells (S := fun k => k = Wf.heap.size) rfl CF.toList 0 (Wf.alloc (.cells Z9 43))
          have Dz := hid (Df.out.trans ((below_cells (ba.mono (Nat.le_refl _)) (Nat.le_refl _) 0 CF.toList).mono Df.out.size))
          have B10z := hid ((B10f.out.more ba).sole SZ (by show ¬ _; have := B10f.out.lt; omega))
          have B15z := hid ((B15f.out.more ba).sole SZ (by show ¬ _; have := B15f.out.lt; omega))
          clear BF FA0 ba SZ hZ9 h9s hCF Df B10f B15f NGc Sf l7 m7 f7 hWT B9h B7t B9t Dt hcN
          go_wp2_with (refine Go.Great.wpList_runTo rfl (some 24) rfl _ _ (hal.out _ _ _ _ _ _) ?_; refine wpList_store_mid rfl 43 _ _ rfl Wf.heap.size 0 CF rfl rfl th (by rw [foundtab, hcf.out]) hce.out ?_; generalize World.setCells _ _ _ _ = WZ at *; clear th hal)
          generalize Wf.heap.size = g24 at *
          refine rwp_loadAt 32 _ rfl g24 0 rfl cw _ FA.out.range Try.underlying32 rfl (by rw [maptab, hcws.out]) ?_
          rename_i Ka ha
          refine ha _ _ ?_
          clear ha
          simp only [Act.put, List.setIfInBounds_toArray, List.set_cons_zero, List.set_cons_succ]
          go_big_want
          refine rwp_load 32 _ rfl g10 rfl cw _ B10z.out Try.underlying32 rfl (by rw [maptab, hcws.out]) ?_
          rename_i Kb hb
          refine hb _ _ ?_
          clear hb
          simp only [Act.put, List.setIfInBounds_toArray, List.set_cons_zero, List.set_cons_succ]
          go_big_want
          refine rwp_runTo9 _ _ (aeql_run NGh.out _ _ _ _ _ _ _ _ (by rfl) (by rfl) _) ?_
          rename_i Kc hc
          refine hc _ _ ?_
          clear hc
          simp only [Act.put, List.setIfInBounds_toArray, List.set_cons_zero, List.set_cons_succ]
          have y0 := FA.out.s
          have y1 := FA.out.o
          have y2 := FA.out.x
          have y3 := FA.out.b
          have yl := FA.out.lt
          dsimp only at y0 y1 y2 y3
          obtain ⟨l15, m15, f15⟩ := B15z.out
          have hpe : eqPlc ps' po' px' ps' po' px' = true := eqP_self ps' po' px'
          go_wp2_with fail
          go_ret
          exact ⟨by simp, Dz.out⟩
      · have hlti : ¬ (i : Int) < (Ls.length : Int) := by omega
        clear hlt hi hi5
        obtain ⟨m1, K1, hd1, hK1, hQ1, hT1, _⟩ := hWT.out.d
        have KF1 := hid (KF.out m1 K1 WR hd1 R hQ1 _ hT1 (fun x h0 h1 => hDA.out.inv.len x h0 (by have := hNh.out; omega)))
        have hmi := hid (show (Try.prog.info? 34).map (·.size) = some C9.size by rw [marktab, NC.out.size])
        have B9h := hid B9t.out
        have hK1h := hid hK1
        obtain ⟨l7, m7, f7⟩ := B7t.out
        clear hd1 hK1 hQ1 hT1
        go_wp2_with (refine rwpList_load rfl 34 _ rfl g9 rfl C9 _ B9h.out Try.underlying34 rfl hmi.out ?_)
        refine KF1.out.mono ?_
        rintro e Wf ⟨_, Sf, k, t, hr, hstop, _, _, rfl⟩
        have hts : t = s' := hDA.out.inv.only (by have := hDA.out.sqb; have := hi5h.out; omega) hr hstop
        rw [hts]
        clear hr hstop hts KF1
        have B10f := hid (hWT.out.b10.sole Sf (fun hk => hFG.out.n10 (hK1h.out _ hk)))
        have B15f := hid (hWT.out.b15.sole Sf (fun hk => hFG.out.n15 (hK1h.out _ hk)))
        have Df := hid (Dt.out.trans (Sf.below (B := w.heap.size) Dt.out.size (fun k hk => hKBw.out k (hK1h.out k hk))))
        have hcN := hid hDA.out.c
        obtain ⟨cw, hcw⟩ : ∃ c, c = s'.c := ⟨_, rfl⟩
        rw [← hcw] at hcN B10f ⊢
        clear hcw
        obtain ⟨Gc, NGc⟩ := hcN.out
        have hcws := hid NGc.size
        have NGh := hid NGc
        generalize s'.fb = pb at *
        obtain ⟨ef, hef⟩ : ∃ e, e = s'.fp := ⟨_, rfl⟩
        rw [← hef] at B15f ⊢
        clear hef
        obtain ⟨ps', po', px'⟩ := ef
        obtain ⟨CF, hCF⟩ : ∃ CF, CF = foundC cw ⟨ps', po', px'⟩ pb := ⟨_, rfl⟩
        have hcf := hid (show CF.size = 260 by rw [hCF]; exact foundC_size NGc.size _ _)
        have hce := hid (show CF.all (·.oneCell') = true by rw [hCF]; exact found_one NGc _ _)
        obtain ⟨Z9, hZ9⟩ : ∃ Z, Z = zerosF := ⟨_, rfl⟩
        have h9s : Z9.size = 260 := by rw [hZ9]; simp [zerosF]
        have hal := hid (fun ρ dst ty pos af W => (hZ9 ▸ fallocF ρ dst ty pos af W : (execOp ρ { dst := dst, op := .alloc 43, type := ty, pos := pos, after := af, guard := none }).run Try.prog W = .ok (.value (.pointer (some ⟨W.heap.size, 0, none⟩))) (W.alloc (.cells Z9 43))))
        have BF := Blk.new Wf Z9 43
        have th := BF.there (n := CF.size) (by rw [hcf.out, h9s])
        have FA0 := FoundAt.whole BF h9s NGc.size ⟨ps', po', px'⟩ pb
        rw [← hCF] at FA0 ⊢
        have FA := hid FA0
        have ba := below_al1 Wf (.cells Z9 43)
        have SZ := sole_setCells (S := fun k => k = Wf.heap.size) rfl CF.toList 0 (Wf.alloc (.cells Z9 43))
        have Dz := hid (Df.out.trans ((below_cells (ba.mono (Nat.le_refl _)) (Nat.le_refl _) 0 CF.toList).mono Df.out.size))
        have B10z := hid ((B10f.out.more ba).sole SZ (by show ¬ _; have := B10f.out.lt; omega))
        have B15z := hid ((B15f.out.more ba).sole SZ (by show ¬ _; have := B15f.out.lt; omega))
        clear BF FA0 ba SZ hZ9 h9s hCF Df B10f B15f NGc Sf l7 m7 f7 hWT B9h B7t B9t Dt hcN
        go_wp2_with (refine Go.Great.wpList_runTo rfl (some 24) rfl _ _ (hal.out _ _ _ _ _ _) ?_; refine wpList_store_mid rfl 43 _ _ rfl Wf.heap.size 0 CF rfl rfl th (by rw [foundtab, hcf.out]) hce.out ?_; generalize World.setCells _ _ _ _ = WZ at *; clear th hal)
        generalize Wf.heap.size = g24 at *
        refine rwp_loadAt 32 _ rfl g24 0 rfl cw _ FA.out.range Try.underlying32 rfl (by rw [maptab, hcws.out]) ?_
        rename_i Ka ha
        refine ha _ _ ?_
        clear ha
        simp only [Act.put, List.setIfInBounds_toArray, List.set_cons_zero, List.set_cons_succ]
        go_big_want
        refine rwp_load 32 _ rfl g10 rfl cw _ B10z.out Try.underlying32 rfl (by rw [maptab, hcws.out]) ?_
        rename_i Kb hb
        refine hb _ _ ?_
        clear hb
        simp only [Act.put, List.setIfInBounds_toArray, List.set_cons_zero, List.set_cons_succ]
        go_big_want
        refine rwp_runTo9 _ _ (aeql_run NGh.out _ _ _ _ _ _ _ _ (by rfl) (by rfl) _) ?_
        rename_i Kc hc
        refine hc _ _ ?_
        clear hc
        simp only [Act.put, List.setIfInBounds_toArray, List.set_cons_zero, List.set_cons_succ]
        have y0 := FA.out.s
        have y1 := FA.out.o
        have y2 := FA.out.x
        have y3 := FA.out.b
        have yl := FA.out.lt
        dsimp only at y0 y1 y2 y3
        obtain ⟨l15, m15, f15⟩ := B15z.out
        have hpe : eqPlc ps' po' px' ps' po' px' = true := eqP_self ps' po' px'
        go_wp2_with fail
        go_ret
        exact ⟨by simp, Dz.out⟩
end Go.Proofs.Ytcklmemnjchdcaa

namespace Go.Proofs.Ytcklmemnjchdcaa
open Go.ChangeShapes Go.WideShapes Go.ChangeAt Go.RowKit
set_option linter.unusedVariables false
set_option maxRecDepth 100000

theorem rollFinds_lifted (os : Os) (started : os.Started) (H : Type) (enc : TypeId × Value → H) :
    ReturnsInHanded {} Try.checked os 3 .any (Rows.rollFindsSpec.pre6 enc Try.prog Try.f3 [] false) (Rows.rollFindsSpec.post enc Try.prog Try.f3 false true false false) :=
  lift (C := Try.checked) (s := Rows.rollFindsSpec) own (by kernel_rfl) Try.func3 laidOut rfl rfl Try.underlying4 (by kernel_rfl)
    (fun H ds hd => by match ds, hd with | [d1, d2, d3], _ => rfl) os started H enc
    (ChangeSpec.witness6 (enc := enc) (C := Try.checked) false ⟨#[], #[.int .u8 0, .slice none 0 0, .bool false], []⟩ 8 (by kernel_rfl) (by kernel_rfl) (by kernel_rfl) (by kernel_rfl))
    (fun W base args ds ps hval0 hA0 => by
      have hval : ∀ (j : Nat) t v, Try.f3.params[j]? = some t → args[j]? = some v → Value.okWide Try.prog W .any base t v := hval0
      have hA : DataW.TrodAll enc Try.prog W 0 (fun _ => true) true Try.f3.params.toList args.toList ds ps := hA0
      rw [Try.params3] at hA hval
      obtain ⟨v0, s0, d0, e0, p0, q0, g0, h0, r0⟩ := args_cons hA
      obtain ⟨v1, s1, d1, e1, p1, q1, rfl, h1, r1⟩ := args_cons r0
      obtain ⟨v2, s2, d2, e2, p2, q2, rfl, h2, r2⟩ := args_cons r1
      obtain ⟨rfl, _, _⟩ := trodAll_nil r2
      obtain rfl : args = #[v0, v1, v2] := by cases args; simp_all
      obtain ⟨s, rfl, _, _, ws⟩ := open_int Try.underlying5 (hval 0 5 v0 rfl rfl) h0
      have bs := bounds_u8 ws
      obtain ⟨L1, a1, k1, rfl, c1, m1, R1, T1⟩ := entll_of (hval 1 22 v1 rfl rfl) h1
      obtain ⟨op, rfl, _⟩ := open_bool Try.underlying4 (hval 2 4 v2 rfl rfl) h2
      exact rollFinds s bs.1 (by have := bs.2; omega) a1 k1 L1 c1 m1 op W R1 T1)

theorem rollFinds_holds : Rows.RollFindsSaid :=
  OpenClaim.holds_of_wide 3 Try.f3 rfl rfl rfl rfl rfl rfl rfl ⟨rfl, rfl, rfl, rfl, rfl⟩ rfl rfl rfl rfl rfl (by kernel_rfl) Try.func3 (by kernel_rfl)
    (of_decide_eq_true (by kernel_rfl)) (by unfold Func.isWrapper; rw [if_neg (of_decide_eq_false (by kernel_rfl))]; exact ⟨rfl, rfl⟩)
    (fun os started H enc _ => rollFinds_lifted os started H enc)
#print axioms rollFinds_holds
end Go.Proofs.Ytcklmemnjchdcaa
