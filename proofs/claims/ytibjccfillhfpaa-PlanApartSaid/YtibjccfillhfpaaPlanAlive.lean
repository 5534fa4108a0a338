/-
  Layer 18: the law's beginning; which beginnings may not be.
-/
import Derived.Test.YtibjccfillhfpaaPlanParts
namespace Go.Proofs.Ytibjccfillhfpaa
open Go.RowKit
set_option linter.unusedVariables false
set_option linter.unusedSimpArgs false

/-- What is handed back where the log can go on, and all entries may be. -/
def PartsOk (z : Int) (p : Plc) (F : List Int) (L : List En) (w : World) (e : Ending) (w' : World) : Prop :=
  Below w.heap.size w w' ∧
  ((planP z p F L = none ∧ e = .returned (.tuple #[.slice none 0 0, plv0, .slice none 0 0, .int .i64 10])) ∨
   (∃ V q f v vf, planP z p F L = some (V.map PtV.data, q, f) ∧ e = .returned (.tuple #[v, plv q.seg q.off q.next, vf, .int .i64 0]) ∧ PartsOwn w' w.heap.size v V ∧ RowOwn inT w' w.heap.size vf f))
theorem PartsPost.ok {n z : Int} {p : Plc} {F : List Int} {L : List En} {w w' : World} {e : Ending} (h : PartsPost n z p F L w e w') (hp : placedB n z p F = true) (hg : L.all goodE = true) : PartsOk z p F L w e w' := by
  obtain ⟨hb, h | h | h | h⟩ := h
  · rw [hp] at h; exact absurd h.1 (by simp)
  · rw [hg] at h; exact absurd h.2.1 (by simp)
  · exact ⟨hb, .inl ⟨h.2.2.1, h.2.2.2⟩⟩
  · exact ⟨hb, .inr h.2.2⟩

theorem map_one {V : List PtV} {d : PtD} (h : V.map PtV.data = [d]) : ∃ x, V = [x] ∧ x.data = d := by
  cases V with
  | nil => simp at h
  | cons a V =>
    cases V with
    | nil => simp at h; exact ⟨a, rfl, h⟩
    | cons b V => simp at h

set_option maxRecDepth 100000 in
set_option maxHeartbeats 4000000 in
theorem alive18 (w : World) : Calls Try.prog 7 #[] w fun e w' => e = .returned (.bool true) ∧ Below w.heap.size w w' := by
  have hb : Below w.heap.size w (((w.alloc (.cells #[.int .i64 6, .int .i64 4] 23)).alloc (.cells #[.int .i64 2] 3)).alloc (.cells #[.int .i64 1, .int .i64 5] 34)) := (((Below.refl _ _).alloc (Nat.le_refl _) _).alloc (by simp) _).alloc (by simp; omega) _
  obtain ⟨B0, B1, B2, _⟩ := @boxed3 w _ #[.int .i64 6, .int .i64 4] #[.int .i64 2] #[.int .i64 1, .int .i64 5] 23 3 34 (Below.refl _ _)
  have R1 : RowOf inT _ _ [2] := rowOf_one inOk B1 rfl
  have R2 : RowOf enT _ _ [⟨1, 5⟩] := rowOf_one enOk B2 rfl
  have hpl : placedB 6 4 ⟨0, 0, 1⟩ [2] = true := by rfl
  have hgd : [(⟨1, 5⟩ : En)].all goodE = true := by rfl
  have KP := hid ((parts_any 6 4 0 0 1 _ 1 [2] _ 1 [⟨1, 5⟩] (by simp) (by unfold maxLen; omega) (by simp) (fun e => by cases e) (by simp) (by unfold maxLen; omega) (by simp) _ R1 R2).mono fun e w' h => h.ok hpl hgd)
  have hpp : planP 4 ⟨0, 0, 1⟩ [2] [⟨1, 5⟩] = some ([⟨⟨0, 0, 1⟩, true, [⟨1, 5⟩]⟩], ⟨0, 2, 1⟩, [2]) := by rfl
  have hbh := hid hb
  have hpph := hid hpp
  clear B0 B1 B2 R1 R2 hb hpp hpl hgd
  go_enter Try.func7, Try.ntmps7
  go_wp2_with fail
  refine KP.out.mono ?_
  rintro e w1 ⟨hb1, h⟩
  have D1 := hid (below2 hbh.out hb1 hbh.out.size)
  rcases h with ⟨h1, h2⟩ | ⟨V, q, f, v, vf, h1, rfl, hV, hf⟩
  · exact absurd (hpph.out.symm.trans h1) (by simp)
  · have h3 := Option.some.inj (hpph.out.symm.trans h1)
    obtain ⟨h4, h5⟩ := Prod.mk.inj h3
    obtain ⟨rfl, rfl⟩ := Prod.mk.inj h5
    obtain ⟨x, rfl, hx⟩ := map_one h4.symm
    obtain ⟨pv, cv, rfl, c1, c2, RV⟩ := hV.row.open ptOk
    obtain ⟨pf, cf, rfl, d1, d2, RF⟩ := hf.open inOk
    obtain ⟨b, o, rfl, R⟩ := RowP.row (show RowP w1 pv 6 1 (fun i => ptcells (ptAt [x] i)) from RV) (by omega)
    have hbl := R.lt
    have z4 : w1.cell? ⟨b, o + 3 + 1, none⟩ = some (.bool true) := by
      have h := R.cell 0 (by omega) 4 (.bool x.last) rfl
      rw [show x.last = true from congrArg PtD.last hx] at h
      rw [show o + 0 * 6 + 4 = o + 3 + 1 by omega] at h
      exact h
    clear KP hV hf RV RF R h1 h3 h4 h5 hx hb1
    go_wp2_with fail
    go_ret
    exact ⟨rfl, D1.out.alloc D1.out.size _⟩

theorem segB_false {n z k : Int} (h : segB n z k = false) (ho : okB n z = true) : k < 0 ∨ n ≤ k := by
  simp only [segB, ho, Bool.true_and, Bool.and_eq_false_iff, decide_eq_false_iff_not] at h
  omega
theorem segB_true {n z k : Int} (h : segB n z k = true) : 0 ≤ k ∧ k < n := by
  simp only [segB, Bool.and_eq_true, decide_eq_true_eq] at h
  exact ⟨h.1.2, h.2⟩

set_option maxRecDepth 100000 in
set_option maxHeartbeats 8000000 in
theorem odd_any (n z s o x : Int) (L : List Int) (p : Option Addr) (cap : Nat) (h1 : L.length ≤ cap) (h2 : cap ≤ maxLen) (w : World) (HR : RowOf inT w p L) :
    Calls Try.prog 9 #[geo n z, plv s o x, .slice p L.length cap] w fun e w' => e = .returned (.bool (!placedB n z ⟨s, o, x⟩ L)) ∧ Below w.heap.size w w' := by
  obtain ⟨B0, B1, Hb⟩ := @boxed2 w _ #[.int .i64 n, .int .i64 z] #[.int .i64 s, .int .i64 o, .int .i64 x] 23 25 (Below.refl _ _)
  have HB0 := hid B0
  have HB1 := hid B1
  have HH := hid Hb
  have hP := hid (show placedB n z ⟨s, o, x⟩ L = (okB n z && (segB n z s && (segB n z x && (decide (0 ≤ o) && (decide (o ≤ z) && L.all (segB n z)))))) from rfl)
  have hR0 := hid (in_rowp HR)
  have hall : Hid (∀ k, k < L.length → (L.take (k + 1)).all (segB n z) = ((L.take k).all (segB n z) && segB n z (inAt L k))) := hid (fun k hk => by
    rw [List.take_add_one, List.getElem?_eq_getElem hk, ← atR_eq (T := inT) L k hk]
    simp [List.all_append])
  have hfull : Hid ((L.take L.length).all (segB n z) = L.all (segB n z)) := hid (by rw [List.take_length])
  have h00 : Hid ((L.take 0).all (segB n z) = true) := hid (by simp)
  generalize placedB n z ⟨s, o, x⟩ L = PB at *
  generalize L.all (segB n z) = G at *
  obtain ⟨m, hm⟩ : ∃ m, L.length = m := ⟨_, rfl⟩
  rw [hm] at h1 hR0 hall hfull ⊢
  have hn63 : (m : Int) ≤ 9223372036854775807 := by unfold maxLen at h2; omega
  rcases ok_ways n z with ⟨e, g1, g2, g3, g4⟩ | ⟨e, g1⟩ | ⟨e, g1, g2⟩ | ⟨e, g1, g2, g3⟩ | ⟨e, g1, g2, g3, g4⟩
  rotate_left
  all_goals try
    (have hPB : Hid (PB = false) := hid (by rw [hP.out, e]; rfl)
     clear e B0 B1 Hb HR hm
     go_enter Try.func9, Try.ntmps9
     go_wp2
     go_ret
     exact ⟨by rw [hPB.out]; rfl, HH.out⟩)
  have hgeo := hid e
  -- the place
  obtain ⟨bad, hbad⟩ : ∃ bad, bad = !(segB n z s && (segB n z x && (decide (0 ≤ o) && decide (o ≤ z)))) := ⟨_, rfl⟩
  have hP2 : Hid (PB = (!bad && G)) := hid (by
    rw [hP.out, e, hbad]
    cases segB n z s <;> cases segB n z x <;> cases decide (0 ≤ o) <;> cases decide (o ≤ z) <;> cases G <;> rfl)
  have hbad' := hid hbad
  have hways : (bad = true ∧ (s < 0 ∨ (¬ s < 0 ∧ n ≤ s) ∨ (¬ s < 0 ∧ ¬ n ≤ s ∧ x < 0) ∨ (¬ s < 0 ∧ ¬ n ≤ s ∧ ¬ x < 0 ∧ n ≤ x) ∨ (¬ s < 0 ∧ ¬ n ≤ s ∧ ¬ x < 0 ∧ ¬ n ≤ x ∧ o < 0) ∨ (¬ s < 0 ∧ ¬ n ≤ s ∧ ¬ x < 0 ∧ ¬ n ≤ x ∧ ¬ o < 0 ∧ z < o))) ∨ (bad = false ∧ ¬ s < 0 ∧ ¬ n ≤ s ∧ ¬ x < 0 ∧ ¬ n ≤ x ∧ ¬ o < 0 ∧ ¬ z < o) := by
    have h : bad = false ↔ (0 ≤ s ∧ s < n ∧ 0 ≤ x ∧ x < n ∧ 0 ≤ o ∧ o ≤ z) := by
      rw [hbad]
      simp only [segB, e, Bool.true_and, Bool.not_eq_false', Bool.and_eq_true, decide_eq_true_eq, and_assoc]
    cases bad
    · have := h.1 rfl
      exact .inr ⟨rfl, by omega, by omega, by omega, by omega, by omega, by omega⟩
    · have hn : ¬ (0 ≤ s ∧ s < n ∧ 0 ≤ x ∧ x < n ∧ 0 ≤ o ∧ o ≤ z) := fun hh => by have := h.2 hh; simp at this
      exact .inl ⟨rfl, by omega⟩
  clear hbad e B0 B1 Hb HR hm
  obtain ⟨W, hW⟩ : ∃ W, (w.alloc (.cells #[.int .i64 n, .int .i64 z] 23)).alloc (.cells #[.int .i64 s, .int .i64 o, .int .i64 x] 25) = W := ⟨_, rfl⟩
  rw [hW] at HB0 HB1 HH
  replace hW := hid hW
  go_enter Try.func9, Try.ntmps9
  go_upto_region 3 with (fail)
  rw [hW.out]
  go_cut [7] (fun s7 wx => s7 = .bool bad ∧ wx = W)
  case first =>
    obtain ⟨l0, k0, f0⟩ := HB0.out
    obtain ⟨l1, k1, f1⟩ := HB1.out
    rcases hways with ⟨hb, h | ⟨h3, h4⟩ | ⟨h3, h4, h5⟩ | ⟨h3, h4, h5, h6⟩ | ⟨h3, h4, h5, h6, h7⟩ | ⟨h3, h4, h5, h6, h7, h8⟩⟩ | ⟨hb, h3, h4, h5, h6, h7, h8⟩
    all_goals
      replace hb := hid hb
      go_wp2_with fail
      go_meet
      case rel => exact ⟨by rw [hb.out], rfl⟩
  case rest =>
    obtain ⟨rfl, rfl⟩ := hcut
    clear hways g1 g2 g3 g4
    go_wp2_with fail
    go_loopw [7, 8] (fun s7 i wr => ∃ k : Nat, k ≤ m ∧ i = .int .i64 (k : Int) ∧ s7 = .bool (bad || !(L.take k).all (segB n z)) ∧ Below wc.heap.size wc wr) (fun _ i _ => m - (intOf i).toNat)
    case atStart => exact ⟨0, by omega, rfl, by rw [h00.out]; simp, Below.refl _ _⟩
    case round =>
      obtain ⟨k, hk, rfl, rfl, hb⟩ := hrel
      by_cases hlt : k < m
      · obtain ⟨b, o', rfl, R0⟩ := hR0.out.row (by omega)
        have R := R0.more (below2 HH.out hb HH.out.size)
        have z0 := R.at0 hlt (v := .int .i64 (inAt L k)) rfl
        rw [Nat.mul_one] at z0
        have hst := hall.out k hlt
        have hsg : segB n z (inAt L k) = (decide (0 ≤ inAt L k) && decide (inAt L k < n)) := by unfold segB; rw [hgeo.out, Bool.true_and]
        rw [hsg] at hst
        generalize inAt L k = y at *
        have hst2 : Hid ((bad || !(L.take (k + 1)).all (segB n z)) = ((bad || !(L.take k).all (segB n z)) || !(decide (0 ≤ y) && decide (y < n)))) := hid (by rw [hst]; cases bad <;> cases (L.take k).all (segB n z) <;> simp)
        generalize (bad || !(L.take k).all (segB n z)) = c at *
        have hlt1 : (k : Int) < (m : Int) := by omega
        have hk1 : IntKind.i64.wrap ((k : Int) + 1) = (k : Int) + 1 := IntWalk.i64_in _ ⟨by omega, by omega⟩
        have q0 := fun u : Later wr => u.blk (HB0.out.more hb)
        have zz : ∀ u : Later wr, u.val.cell? ⟨b, o' + k, none⟩ = some (.int .i64 y) := fun u => (u.cell _ _ (cell_lt z0)).trans z0
        have hbh := hid hb
        have hyw : (c = true) ∨ (c = false ∧ y < 0) ∨ (c = false ∧ decide (y < 0) = false ∧ n ≤ y) ∨ (c = false ∧ decide (y < 0) = false ∧ decide (n ≤ y) = false) := by
          cases c
          · by_cases g : y < 0
            · exact .inr (.inl ⟨rfl, g⟩)
            · by_cases g' : n ≤ y
              · exact .inr (.inr (.inl ⟨rfl, decide_eq_false g, g'⟩))
              · exact .inr (.inr (.inr ⟨rfl, decide_eq_false g, decide_eq_false g'⟩))
          · exact .inl rfl
        clear R R0 z0 hst hsg hb
        rcases hyw with rfl | ⟨rfl, g⟩ | ⟨rfl, g, g'⟩ | ⟨rfl, g, g'⟩
        all_goals
          go_wp2_with fail
          refine wp_region_late 17 (by kernel_rfl) (by kernel_rfl) ?_
          simp only [List.take_succ_cons, List.take_zero, List.drop_succ_cons, List.drop_zero]
          iterate 17 (go_big_quiet_step (fail))
          refine wpQuiet_nil ?_
          intro w6 h6'
          have h6 := late_out h6'
          have Hb6 := hid (hbh.out.trans (h6.mono hbh.out.size))
          clear h6' h6 q0 zz
          go_wp2_with fail
          go_roundw
          case rel => exact ⟨k + 1, hlt, by go_num, by rw [hst2.out]; (try simp only [decide_eq_false_iff_not] at *); simp; try omega, Hb6.out⟩
          case measure => simp [intOf]; omega
      · obtain rfl : k = m := by omega
        rw [hfull.out]
        have hres : Hid ((!PB) = (bad || !G)) := hid (by rw [hP2.out]; cases bad <;> cases G <;> rfl)
        have D := hid (below2 HH.out hb HH.out.size)
        generalize (bad || !G) = R at *
        clear hb
        go_wp2_with fail
        go_ret
        exact ⟨by rw [hres.out]; rfl, D.out⟩
end Go.Proofs.Ytibjccfillhfpaa
