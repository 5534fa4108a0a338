/-
  Layer 17: what is set, and which Ids are somewhere, is as the page says; whether sectors are apart, too. The walk of NmapTells.
-/
import Derived.Test.YtjmacojlneldaaaNmapAlive
import Derived.Test.YtjmacojlneldaaaQuietLoad
import Derived.Test.YtjmacojlneldaaaRegionOrder
import Derived.Test.YtjmacojlneldaaaPlainInts
namespace Go.Proofs.Ytjmacojlneldaaa
open Go.RowKit Go.Maps
set_option linter.unusedVariables false
set_option linter.unusedSimpArgs false

/-- A new slice of these numbers. -/
def NewIntsN (L : List Int) (v : Value) (w : World) : Prop := ∃ p cap, v = .slice p L.length cap ∧ L.length ≤ cap ∧ cap ≤ maxLen ∧ RowP w p 1 L.length (fun i => [.int .i64 (L.getD i 0)])
theorem NewIntsN.stable (L : List Int) (v : Value) : Stable (NewIntsN L v) := fun w w' h hb => by
  obtain ⟨p, cap, e, h1, h2, R⟩ := h
  exact ⟨p, cap, e, h1, h2, R.more hb⟩
theorem NewIntsN.row {L : List Int} {p : Option Addr} {m cap : Nat} {w : World} (h : NewIntsN L (.slice p m cap) w) : L.length ≤ cap ∧ cap ≤ maxLen ∧ RowP w p 1 L.length (fun i => [.int .i64 (L.getD i 0)]) := by
  obtain ⟨p', cap', e, h1, h2, R⟩ := h
  cases e
  exact ⟨h1, h2, R⟩

/-- Has none of these the same? -/
def apL (F : Nat → Int) (L : List Int) : Bool := decide (L.Pairwise fun a b => F a.toNat ≠ F b.toNat)
def neB (F : Nat → Int) (L : List Int) (x : Int) : Nat → Bool
  | 0 => true
  | t + 1 => neB F L x t && (F (L.getD t 0).toNat != x)
theorem neB_iff (F : Nat → Int) (L : List Int) (x : Int) : ∀ t, neB F L x t = true ↔ ∀ j, j < t → F (L.getD j 0).toNat ≠ x
  | 0 => by simp [neB]
  | t + 1 => by
    simp only [neB, Bool.and_eq_true, bne_iff_ne, ne_eq, neB_iff F L x t]
    constructor
    · rintro ⟨h1, h2⟩ j hj
      by_cases e : j = t
      · rw [e]; exact h2
      · exact h1 j (by omega)
    · intro h
      exact ⟨fun j hj => h j (by omega), h t (by omega)⟩
theorem apL_nil (F : Nat → Int) : apL F [] = true := by simp [apL]
theorem apL_snoc (F : Nat → Int) (L : List Int) (k : Nat) : apL F (L ++ [(k : Int)]) = (apL F L && neB F L (F k) L.length) := by
  have e : neB F L (F k) L.length = decide (∀ a ∈ L, F a.toNat ≠ F k) := by
    rw [Bool.eq_iff_iff, neB_iff, decide_eq_true_iff]
    constructor
    · intro h a ha
      obtain ⟨j, hj, rfl⟩ := List.getElem_of_mem ha
      have := h j hj
      simpa [List.getD, hj] using this
    · intro h j hj
      have := h L[j] (List.getElem_mem hj)
      simpa [List.getD, hj] using this
  rw [e]
  unfold apL
  rw [Bool.eq_iff_iff]
  simp only [decide_eq_true_iff, Bool.and_eq_true, List.pairwise_append, List.pairwise_cons, List.not_mem_nil, List.Pairwise.nil, and_true, List.mem_singleton]
  constructor
  · rintro ⟨h1, _, h3⟩
    exact ⟨h1, fun a ha => h3 a ha _ rfl⟩
  · rintro ⟨h1, h2⟩
    refine ⟨h1, by simp, fun a ha b hb => ?_⟩
    subst hb
    exact h2 a ha
theorem apart_ap (F : Nat → Int) (L : List Int) : ApartP (fun i => F (L.getD i 0).toNat) L.length ↔ apL F L = true := by
  unfold apL ApartP
  rw [decide_eq_true_iff, List.pairwise_iff_getElem]
  constructor
  · intro h i j hi hj hij
    have := h i j hij hj
    simpa [List.getD, hi, hj] using this
  · intro h i j hij hj
    have := h i j (by omega) hj hij
    simpa [List.getD, hj, show i < L.length by omega] using this
theorem apart_val (c : Array Value) (F : Nat → Int) (hc : Nums c .i64 256 F) (hF : ∀ i, i < 256 → (Lit.int .i64 (F i)).wf = true) (w : World) :
    Calls Try.prog 30 #[.agg c] w fun e w' => e = .returned (.bool (apL F (idsL F 256))) ∧ Below w.heap.size w w' :=
  (apart_any c F hc hF w).mono fun e w' h => by
    obtain ⟨b, rfl, hb, h2⟩ := h
    rw [apart_ap] at hb
    exact ⟨by rw [show b = apL F (idsL F 256) from Bool.eq_iff_iff.2 hb], h2⟩
/-- Two arrays of the same numbers are one. -/
theorem eql_numsn {t : TypeId} {m : Nat} (h : Try.prog.underlying t = some (.array m 3)) {d : Array Value} {F : Nat → Int} (hd : Nums d .i64 m F) (w : World) :
    (Op.equalIn 10000 t (.agg d) (.agg d)).run Try.prog w = .ok true w := by
  have e1 : ∀ w, (isAgg 3).run Try.prog w = .ok false w := fun w => by kernel_rfl
  have e2 : ∀ w, (sizeOf 3).run Try.prog w = .ok 1 w := fun w => by kernel_rfl
  show (Op.equalIn (9998 + 2) t (.agg d) (.agg d)).run Try.prog w = .ok true w
  generalize 9998 = f
  rw [Op.equalIn]
  simp only [Sem.run_bind, run_underlying h, Result.andThen_ok, e2, Std.Legacy.Range.forIn_eq_forIn_range', Std.Legacy.Range.size, Nat.sub_zero, Nat.add_sub_cancel, Nat.div_one]
  have hl : ∀ i ∈ List.range' 0 m 1, i < m := fun i hi => by simpa using (List.mem_range'_1.1 hi).2
  generalize List.range' 0 m 1 = l at hl ⊢
  induction l with
  | nil => simp
  | cons i l ih =>
    have hi : i < m := hl i (by simp)
    have px : (part 3 d (i * 1)).run Try.prog w = .ok (.int .i64 (F i)) w := by
      simp [part, e1, hd.get i hi]
    have pe : (Op.equalIn (f + 1) 3 (.int .i64 (F i)) (.int .i64 (F i))).run Try.prog w = .ok true w := by
      rw [run_equalIn_int w f 3 .i64 .i64 _ _ Try.underlying3]
      simp
    simp only [List.forIn_cons, Sem.run_bind, px, pe, Result.andThen_ok]
    simp only [Bool.not_true, Bool.false_eq_true, if_false, Sem.run_pure, Result.andThen_ok]
    exact ih fun j hj => hl j (by simp [hj])

set_option maxRecDepth 100000 in
set_option maxHeartbeats 4000000 in
theorem nmapTells (c : Array Value) (F : Nat → Int) (hc : Nums c .i64 256 F) (hF : ∀ i, i < 256 → (Lit.int .i64 (F i)).wf = true) (id a : Int) (w : World) :
    Calls Try.prog 9 #[.agg c, .int .i64 id, .int .i64 a] w fun e w' => e = .returned (.bool true) ∧ Below w.heap.size w w' := by
  have KA := hid alive17
  obtain ⟨j0, hj, hy0, hy1, hy2⟩ := info_parts intTab
  have sz := hc.size
  have one := hc.one
  have NS := set_nums hc id a
  have szd := NS.size
  have KS := hid (fun w => nset_any c F hc id a w)
  have hin : ∀ h : 0 < id ∧ id < 256, ∃ j : Nat, id = j ∧ j < 256 ∧ setC c id a = c.setIfInBounds j (.int .i64 a) := fun h => ⟨id.toNat, by omega, by omega, by unfold setC; rw [if_pos h]⟩
  have hout : ¬ (0 < id ∧ id < 256) → setC c id a = c := fun h => by unfold setC; rw [if_neg h]
  have heq := fun w => eql_numsn Try.underlying44 NS w
  generalize setC c id a = d at *
  obtain ⟨Ln, hLn⟩ : ∃ Ln, idsL F 256 = Ln := ⟨_, rfl⟩
  have KI := hid (fun w => show Calls Try.prog 29 #[.agg c] w fun e w' => ∃ v, e = .returned v ∧ Below w.heap.size w w' ∧ NewIntsN Ln v w' from
    (ids_any c F hc w).mono fun e w' h => by
      obtain ⟨v, e1, h1, h2⟩ := h
      rw [hLn] at h1
      obtain ⟨p, cap, rfl, g1, g2, R⟩ := h1.open
      exact ⟨_, e1, h2, p, cap, rfl, g1, g2, R⟩)
  have KP := hid (fun w => apart_val c F hc hF w)
  rw [hLn] at KP
  have hLn' := hid (show ∀ k, k = 256 → idsL F k = Ln from fun k hk => by rw [hk]; exact hLn)
  clear hLn
  obtain ⟨B0, H⟩ := @boxed1 w _ c 44 (Below.refl _ _)
  have HH := hid H
  have hB0 := hid B0
  have hch := hid hc
  replace NS := hid NS
  clear hc H B0 hF
  go_enter Try.func9, Try.ntmps9
  go_wp2_with fail
  refine (KA.out _).mono ?_
  rintro e w1 ⟨rfl, hb1⟩
  have hbb := hid (below2 HH.out hb1 HH.out.size)
  have C0 := hid (hB0.out.more hb1)
  have hr := hid C0.out.range
  clear hb1 HH hB0 KA
  go_upto_region 4 with (first
    | (refine Go.Great.wpList_runTo rfl (some 7) rfl _ _ (alloc256n _ _ _ _ _ _) ?_)
    | (refine wpList_load_mid rfl 44 _ rfl w.heap.size 0 rfl c.toList _ hr.out Try.underlying44 rfl (by rw [tab256n]; simp [sz]) ?_)
    | (refine wpList_store_mid rfl 44 _ _ rfl w1.heap.size 0 c rfl rfl ((Blk.new w1 (Array.replicate 256 (.int .i64 0)) 44).there (by rw [sz]; simp)) (by rw [tab256n, sz]) one ?_))
  generalize hW : World.setCells _ _ _ _ = W3
  obtain ⟨E3, H3⟩ : Blk W3 w1.heap.size c ∧ Below w1.heap.size w1 W3 := by
    subst hW
    exact ⟨(Blk.new w1 (Array.replicate 256 (.int .i64 0)) 44).whole (by rw [sz]; simp), below_cells ((Below.refl _ _).alloc (Nat.le_refl _) _) (Nat.le_refl _) _ _⟩
  have F0 := hid (C0.out.more H3)
  have F3 := hid E3
  have H4 := hid (below2 hbb.out H3 hbb.out.size)
  have hlb : w.heap.size < w1.heap.size := C0.out.lt
  clear E3 H3 C0 hbb hW hr
  generalize w1.heap.size = bt at *
  go_simp
  go_cut [20] (fun x wx => x = .bool (decide (0 < id) && decide (id < 256)) ∧ wx = W3)
  case first =>
    rcases (show 0 < id ∧ id < 256 ∨ (0 < id ∧ ¬ id < 256) ∨ ¬ 0 < id by omega) with ⟨h1, h2⟩ | ⟨h1, h2⟩ | h1
    · have g1 : (1 : Int) ≤ id := by omega
      have g2 : id ≤ 255 := by omega
      go_wp2_with fail
      go_meet
      case rel => exact ⟨by simp [h1, h2], rfl⟩
    · have g1 : (1 : Int) ≤ id := by omega
      have g2 : decide (id ≤ 255) = false := decide_eq_false (by omega)
      go_wp2_with fail
      go_meet
      case rel => exact ⟨by simp; omega, rfl⟩
    · have g1 : decide ((1 : Int) ≤ id) = false := decide_eq_false (by omega)
      go_wp2_with fail
      go_meet
      case rel => exact ⟨by simp; omega, rfl⟩
  case rest =>
    obtain ⟨rfl, rfl⟩ := hcut
    go_upto_if 20 with (fail)
    go_cut [6] (fun x wx => x = .bool false ∧ Blk wx bt d ∧ Blk wx w.heap.size c ∧ Below w.heap.size w wx)
    case first =>
      by_cases h : 0 < id ∧ id < 256
      · obtain ⟨j, rfl, hj, e⟩ := hin h
        have hb : (decide (0 < (j : Int)) && decide ((j : Int) < 256)) = true := by simp; omega
        rw [hb]
        have z0 := (F3.out.cell j).trans (hch.out.get j hj)
        have f3 := F3.out.frz
        have l3 := F3.out.lt
        have hj0 : (0 : Int) ≤ (j : Int) := by omega
        have hj2 : (j : Int) < 256 := by omega
        replace e := hid e
        go_wp2_with fail
        go_meet
        case rel => exact ⟨rfl, by rw [e.out]; exact F3.out.set j _ (by rw [sz]; exact hj), F0.out.other _ (by show bt ≠ _; omega) _, Below.setCell (p := ⟨bt, _, none⟩) H4.out (by show w.heap.size ≤ bt; omega) _⟩
      · have hb : (decide (0 < id) && decide (id < 256)) = false := by
          cases hh : (decide (0 < id) && decide (id < 256)) with
          | false => rfl
          | true => simp only [Bool.and_eq_true, decide_eq_true_eq] at hh; exact absurd hh h
        rw [hb]
        have e := hid (hout h)
        go_wp2_with fail
        go_meet
        case rel => exact ⟨rfl, by rw [e.out]; exact F3.out, F0.out, H4.out⟩
    case rest =>
      obtain ⟨rfl, G3, G0, H5⟩ := hcut
      have G3h := hid G3
      have G0h := hid G0
      have H5h := hid H5
      obtain ⟨WX, rfl⟩ : ∃ WX, WX = wc := ⟨_, rfl⟩
      clear G3 G0 H5 F0 F3 H4 hin hout
      go_wp2_with fail
      go_loopw [8, 9, 10] (fun v b i wr => ∃ k : Nat, k ≤ 255 ∧ i = .int .i64 ((k : Int) + 1) ∧ b = .bool (apL F (idsL F (k + 1))) ∧ IntsOwn wr WX.heap.size v (idsL F (k + 1)) ∧ Below WX.heap.size WX wr) (fun _ _ i _ => 257 - (intOf i).toNat)
      case atStart =>
        have e0 : idsL F (0 + 1) = [] := by simp [idsL]
        exact ⟨0, by omega, rfl, by rw [e0, apL_nil], by rw [e0]; exact IntsOwn.nil _ _, Below.refl _ _⟩
      case round =>
        obtain ⟨k, hk, rfl, rfl, HK, Hb⟩ := hrel
        by_cases hlt : k < 255
        · have hlt1 : (k : Int) + 1 < 256 := by omega
          have hk1 : (0 : Int) ≤ (k : Int) + 1 := by omega
          have hk3 : ((k : Int) + 1).toNat = k + 1 := by omega
          have hlen := ids_len F (k + 1)
          have hst : idsL F (k + 1 + 1) = idsL F (k + 1) ++ if F (k + 1) != 0 then [((k + 1 : Nat) : Int)] else [] := by
            show idsL F (k + 1) ++ (if decide (0 < ((k + 1 : Nat) : Int)) && (F (k + 1) != 0) then [((k + 1 : Nat) : Int)] else []) = _
            rw [decide_eq_true (show (0 : Int) < ((k + 1 : Nat) : Int) by omega), Bool.true_and]
          have hsn := apL_snoc F (idsL F (k + 1)) (k + 1)
          have hmem := ids_mem F (k + 1)
          have C1 := hid (G0h.out.more Hb)
          have x1 := (C1.out.cell (k + 1)).trans (hch.out.get (k + 1) (by omega))
          obtain ⟨x, hx⟩ : ∃ x, F (k + 1) = x := ⟨_, rfl⟩
          rw [hx] at x1 hst hsn
          obtain ⟨L, hLe⟩ : ∃ L, idsL F (k + 1) = L := ⟨_, rfl⟩
          rw [hLe] at HK hlen hst hsn hmem ⊢
          replace hLe := hid hLe
          replace hsn := hid hsn
          replace hst := hid hst
          replace hmem := hid hmem
          obtain ⟨pv, cv, rfl, c1, c2, RV⟩ := HK.open
          have HKh := hid HK
          have Hbh := hid Hb
          have RVh := hid RV
          have szb := Hb.size
          have hx' := hid hx
          obtain ⟨ap, hap⟩ : ∃ ap, apL F L = ap := ⟨_, rfl⟩
          rw [hap] at hsn ⊢
          replace hap := hid hap
          clear RV HK Hb c1 c2 hx
          by_cases hx0 : x = 0
          · have hst1 := hid (show idsL F (k + 1 + 1) = L from by rw [hst.out, hx0]; simp)
            have z1 : (x == 0) = true := by simp [hx0]
            clear hx0
            go_wp2_with fail
            go_roundw
            case rel => exact ⟨k + 1, by omega, by go_num, by rw [hst1.out, hap.out], by rw [hst1.out]; exact HKh.out, Hbh.out⟩
            case measure => simp [intOf]; omega
          · have hst1 := hid (show idsL F (k + 1 + 1) = L ++ [((k + 1 : Nat) : Int)] from by rw [hst.out]; simp [hx0])
            have z1 : (x == 0) = false := by simp [hx0]
            replace hx0 := hid hx0
            obtain ⟨WY, rfl⟩ : ∃ WY, WY = wr := ⟨_, rfl⟩
            go_wp2_with fail
            go_loopw [9, 11] (fun b i wq => ∃ t : Nat, t ≤ L.length ∧ i = .int .i64 (t : Int) ∧ b = .bool (ap && neB F L x t) ∧ Below WY.heap.size WY wq) (fun _ i _ => L.length - (intOf i).toNat)
            case atStart => exact ⟨0, by omega, rfl, by simp [neB], Below.refl _ _⟩
            case round =>
              obtain ⟨t, ht, rfl, rfl, Hq⟩ := hrel
              by_cases htl : t < L.length
              · obtain ⟨q, hq1, hq2, hq3, hq4⟩ := hmem.out (L.getD t 0) (by simp [List.getD, htl])
                obtain ⟨b0, o0, rfl, RR⟩ := (RVh.out.more Hq).row (by omega)
                have y0 := RR.at0 htl (v := .int .i64 (q : Int)) (by rw [hq3]; rfl)
                rw [Nat.mul_one] at y0
                have C2 := C1.out.more Hq
                have v1 := (C2.cell q).trans (hch.out.get q (by omega))
                have v2 := (C2.cell (k + 1)).trans (hch.out.get (k + 1) (by omega))
                have hne : neB F L x (t + 1) = (neB F L x t && (F q != x)) := by
                  show (neB F L x t && (F (L.getD t 0).toNat != x)) = _
                  rw [hq3]; rfl
                replace hne := hid hne
                rw [hx'.out] at v2
                have cc : ∀ (c oo : Nat) (v : Value), wr.cell? ⟨c, oo, none⟩ = some v → ∀ u : Later wr, u.val.cell? ⟨c, oo, none⟩ = some v := fun c oo v hv u => (u.cell c oo (cell_lt hv)).trans hv
                have a0 := cc _ _ _ y0
                have a1 := cc _ _ _ v1
                have a2 := cc _ _ _ v2
                have Hqh := hid Hq
                have htl1 : (t : Int) < (L.length : Int) := by omega
                have ht0 : (0 : Int) ≤ (t : Int) := by omega
                have hq0 : (0 : Int) ≤ (q : Int) := by omega
                have hq256 : (q : Int) < 256 := by omega
                generalize F q = y at *
                have hne := hid (show neB F L x (t + 1) = (neB F L x t && (y != x)) from hne.out)
                clear cc y0 v1 v2 RR C2 Hq hq3 hq4
                cases hfl : (ap && neB F L x t) with
                | true =>
                  go_wp2_with fail
                  refine wp_region_late 13 (by kernel_rfl) (by kernel_rfl) ?_
                  simp only [List.take_succ_cons, List.take_zero, List.drop_succ_cons, List.drop_zero]
                  iterate 13 (go_big_quiet_step (fail))
                  refine wpQuiet_nil ?_
                  intro w5 h5'
                  have h5 := hid (late_out h5')
                  clear h5' a0 a1 a2
                  go_wp2_with fail
                  go_roundw
                  case rel => exact ⟨t + 1, by omega, by go_num, by rw [hne.out, ← Bool.and_assoc, hfl]; simp, below2 Hqh.out h5.out Hqh.out.size⟩
                  case measure => simp [intOf]; omega
                | false =>
                  go_wp2_with fail
                  refine wp_region_late 13 (by kernel_rfl) (by kernel_rfl) ?_
                  simp only [List.take_succ_cons, List.take_zero, List.drop_succ_cons, List.drop_zero]
                  iterate 13 (go_big_quiet_step (fail))
                  refine wpQuiet_nil ?_
                  intro w5 h5'
                  have h5 := hid (late_out h5')
                  clear h5' a0 a1 a2
                  go_wp2_with fail
                  go_roundw
                  case rel => exact ⟨t + 1, by omega, by go_num, by rw [hne.out, ← Bool.and_assoc, hfl]; simp, below2 Hqh.out h5.out Hqh.out.size⟩
                  case measure => simp [intOf]; omega
              · obtain rfl : t = L.length := by omega
                have hb2 := hid (below2 Hbh.out Hq Hbh.out.size)
                have HK2 := hid (HKh.out.more Hq)
                have szq : WX.heap.size ≤ wr.heap.size := Nat.le_trans szb Hq.size
                have hnews := hid (new_cells wr #[.int .i64 ((k : Int) + 1)] 3)
                have OO := hid (show wr.ownsRow WX.heap.size 3 1 (.slice pv L.length cv) L.length (L.map (Value.int .i64)) from HK2.out)
                rw [← hsn.out]
                clear Hq
                go_wp2_with (at_builtin; refine wpList_append_own _ rfl _ _ 22 rfl WX.heap.size 3 j0 (.int .i64 0) 1 8 Try.underlying22 hj hy0 hy1 hy2 rfl (by decide) (.slice pv L.length cv) L.length (L.map (Value.int .i64)) (by kernel_rfl) (OO.out.alloc _) ⟨wr.heap.size, 0, none⟩ 1 1 [.int .i64 ((k : Int) + 1)] (by kernel_rfl) rfl hnews.out (one_int _) (by unfold maxLen; omega) (by omega) (by first | omega | (simp; omega)) ?_)
                intro v9 w9 hown hgrow hne
                have E := hid (ints_grow hb2.out HK2.out szq hown hgrow)
                clear hown hgrow hne hnews OO
                go_wp2_with fail
                go_roundw
                case rel => exact ⟨k + 1, by omega, by go_num, by rw [hst1.out]; rfl, by rw [hst1.out]; exact E.out.1, E.out.2⟩
                case measure => simp [intOf]; omega
        · obtain rfl : k = 255 := by omega
          rw [hLn'.out _ rfl] at HK ⊢
          obtain ⟨pf, cf, rfl, c1, c2, RF⟩ := HK.open
          have RFh := hid RF
          have f12 := hid (And.intro c1 c2)
          have P0 := hid (G0h.out.more Hb)
          have P3 := hid (G3h.out.more Hb)
          have HE := hid (below2 H5h.out Hb H5h.out.size)
          have hu1 := Try.underlying44
          have hi1' : (Try.prog.info? 44).map (·.size) = some c.toList.length := by rw [tab256n]; simp [sz]
          have hi2' : (Try.prog.info? 44).map (·.size) = some d.toList.length := by rw [tab256n]; simp [szd]
          clear HK Hb RF c1 c2
          go_wp2_with fail
          refine wp_region_order [([0, 1, 2, 3, 4, 5, 6, 7, 9], 8)] [10, 11, 12, 13, 14, 15, 16, 17] 18 (by kernel_rfl) (by kernel_rfl) (by kernel_rfl) ?_
          refine order_call ?A1 ?walk1 _ 29 #[.agg c] (NewIntsN Ln) (NewIntsN.stable Ln) (by rfl) (by rfl) ?want1 ?run1 ?call1 ?next1
          case walk1 =>
            intro S hS hSS hN
            have r1 : ∀ w', (∃ u : LaterC wr S, w' = u.val) → w'.rangeAt w.heap.size 0 c.toList := fun w' ⟨u, e⟩ => e ▸ (P0.out.more u.h).range
            have r3 : ∀ w', (∃ u : LaterC wr S, w' = u.val) → w'.rangeAt bt 0 d.toList := fun w' ⟨u, e⟩ => e ▸ (P3.out.more u.h).range
            simp only [List.filterMap_cons, List.filterMap_nil, List.getElem?_toArray, List.getElem?_cons_succ, List.getElem?_cons_zero]
            change wpQuiet _ _ _ _ [_, _, _, _, _, _, _, _, _] _
            refine wpQuiet_load_mid rfl 44 _ rfl w.heap.size 0 (by rfl) c.toList _ r1 hu1 rfl hi1' ?_
            simp only [Act.put, List.setIfInBounds_toArray, List.set_cons_zero, List.set_cons_succ]
            iterate 3 (go_big_quiet_step ((first | (go_at_call 28; (with_reducible exact latec_call hS (KS.out _))))))
            refine wpQuiet_load_mid rfl 44 _ rfl bt 0 (by rfl) d.toList _ r3 hu1 rfl hi2' ?_
            simp only [Act.put, List.setIfInBounds_toArray, List.set_cons_zero, List.set_cons_succ]
            iterate 2 (go_big_quiet_step (fail))
            refine wpQuiet_load_if (by kernel_rfl) 44 _ rfl w.heap.size 0 (by rfl) c.toList _ r1 hu1 rfl hi1' ?_
            simp only [Act.put, List.setIfInBounds_toArray, List.set_cons_zero, List.set_cons_succ]
            iterate 1 (go_big_quiet_step (fail))
            refine wpQuiet_nil ?_
            rfl
          case want1 => kernel_rfl
          case run1 => intro w2; simp [execOp, Act.eval, go_sem]
          case call1 => exact fun u => KI.out _
          case next1 =>
            intro v hN1
            obtain ⟨pg, cg, rfl, _, _, _⟩ := (Classical.choice hN1).s.2
            simp only [Act.put, Option.bind_some, List.setIfInBounds_toArray, List.set_cons_zero, List.set_cons_succ]
            refine order_last ?A2 ?walk2 ?fin
            case walk2 =>
              intro S hS hSS hN
              have r1 : ∀ w', (∃ u : LaterC wr S, w' = u.val) → w'.rangeAt w.heap.size 0 c.toList := fun w' ⟨u, e⟩ => e ▸ (P0.out.more u.h).range
              have kI := hid (fun u : LaterC wr S => plainInts_same pg pf Ln.length cg cf (fun i => Ln.getD i 0) (hSS _ u.s).2.row.1 (hSS _ u.s).2.row.2.1 f12.out.1 f12.out.2 u.val (hSS _ u.s).2.row.2.2 (RFh.out.more u.h))
              simp only [List.filterMap_cons, List.filterMap_nil, List.getElem?_toArray, List.getElem?_cons_succ, List.getElem?_cons_zero]
              change wpQuiet _ _ _ _ [_, _, _, _, _, _, _, _] _
              iterate 3 (go_big_quiet_step ((first | (go_at_call 19; (with_reducible exact latec_call hS (kI.out _))))))
              refine wpQuiet_load_if (by kernel_rfl) 44 _ rfl w.heap.size 0 (by rfl) c.toList _ r1 hu1 rfl hi1' ?_
              simp only [Act.put, List.setIfInBounds_toArray, List.set_cons_zero, List.set_cons_succ]
              iterate 4 (go_big_quiet_step ((first | (go_at_call 30; (with_reducible exact latec_call hS (KP.out _))))))
              refine wpQuiet_nil ?_
              rfl
            case fin =>
              intro u
              have hu := hid (below2 HE.out u.h HE.out.size)
              generalize u.val = w9 at *
              simp only [List.drop_succ_cons, List.drop_zero]
              go_wp2_with fail
              go_ret
              exact ⟨by simp, hu.out⟩
end Go.Proofs.Ytjmacojlneldaaa
