/-
  Layer 42: the last of the longest roads is told; no other one is longer.
-/
import Derived.Test.YtahdhgaoofpefaaSpanLong
import Derived.Test.YtahdhgaoofpefaaSpanRoads
namespace Go.Proofs.Ytahdhgaoofpefaa
open Go.RowKit
set_option linter.unusedVariables false
set_option linter.unusedSimpArgs false

set_option maxRecDepth 100000 in
set_option maxHeartbeats 8000000 in
theorem spanLongest (p : Option Addr) (n cap : Nat) (f : Nat → Rd) (h1 : n ≤ cap) (h2 : cap ≤ maxLen) (w : World) (HA : RowP w p 4 n (fun i => rcells (f i))) :
    Calls Try.prog 9 #[.slice p n cap] w fun e w' => e = .returned (.bool true) ∧ Below w.heap.size w w' := by
  have hAh := hid HA
  have h12 := hid (And.intro h1 h2)
  clear HA
  rcases Nat.eq_zero_or_pos n with rfl | hn
  · clear h1 h2
    go_enter Try.func9, Try.ntmps9
    go_wp2_with fail
    refine (alive42 _).mono ?_
    rintro e w1 ⟨rfl, hb1⟩
    have H1 := hid hb1
    clear hb1
    go_wp2_with fail
    refine (longest_none p cap _).mono ?_
    rintro e w2 ⟨rfl, hb2⟩
    have H2 := hid (below2 H1.out hb2 H1.out.size)
    clear hb2 H1
    go_wp2_with fail
    go_ret
    exact ⟨rfl, Below.alloc H2.out H2.out.size _⟩
  · obtain ⟨b, o, rfl, R⟩ := hAh.out.row (by omega)
    have hbl := R.lt
    have hRh := hid R
    have hmax : (cap : Int) ≤ 9223372036854775807 := by unfold maxLen at h2; omega
    have hnc : (n : Int) ≤ (cap : Int) := by omega
    have hn4 : ((n : Int) == 0) = false := by rw [beq_eq_false_iff_ne]; omega
    have hM := hid (bestN_max f (n - 1))
    have hle := bestN_le f (n - 1)
    have hat := hid (atI_best f n hn)
    obtain ⟨m, hm⟩ : ∃ m, bestN f (n - 1) = m := ⟨_, rfl⟩
    have KL := hid (fun w HA => longest_any (some ⟨b, o, none⟩) n cap f h12.out.1 h12.out.2 hn w HA)
    rw [hm] at hM hle hat KL
    have hmn : m < n := by omega
    have hM' := hid (fun j hj => hM.out j hj)
    clear R hm h1 h2
    go_enter Try.func9, Try.ntmps9
    go_wp2_with fail
    refine (alive42 _).mono ?_
    rintro e w1 ⟨rfl, hb1⟩
    have H1 := hid hb1
    clear hb1
    go_wp2_with fail
    refine (KL.out w1 (hAh.out.more H1.out)).mono ?_
    rintro e w2 ⟨rfl, hb2⟩
    have H2 := hid (below2 H1.out hb2 H1.out.size)
    clear hb2 KL
    go_wp2_with fail
    have C := Blk.new w2 #[.int .i64 (f m).f, .int .i64 (f m).t, .int .u64 (f m).h, .int .u64 (f m).l] 70
    have HW : Below w.heap.size w (w2.alloc (.cells #[.int .i64 (f m).f, .int .i64 (f m).t, .int .u64 (f m).h, .int .u64 (f m).l] 70)) := Below.alloc H2.out H2.out.size _
    have hs2 := H2.out.size
    obtain ⟨x, hx⟩ : ∃ x, w2.heap.size = x := ⟨_, rfl⟩
    rw [hx] at C hs2
    try rw [hx]
    have Ch := hid C
    have HWh := hid HW
    clear C HW H1 H2
    generalize w2.alloc (.cells #[.int .i64 (f m).f, .int .i64 (f m).t, .int .u64 (f m).h, .int .u64 (f m).l] 70) = W at *
    clear hx
    go_loopw [5, 6] (fun a i wx => ∃ k : Nat, k ≤ n ∧ i = .int .i64 (k : Int) ∧ a = .int .i64 (atI f m k) ∧ Blk wx x #[.int .i64 (f m).f, .int .i64 (f m).t, .int .u64 (f m).h, .int .u64 (f m).l] ∧ Below w.heap.size w wx) (fun _ i _ => n - (intOf i).toNat)
    case atStart => exact ⟨0, by omega, rfl, rfl, Ch.out, HWh.out⟩
    case round =>
      obtain ⟨k, hk, rfl, rfl, C1, Hb⟩ := hrel
      clear Ch HWh
      by_cases hlt : k < n
      · have hlt1 : (k : Int) < (n : Int) := by omega
        have R := hRh.out.below Hb hbl
        have z0 := R.at0 hlt (v := .int .i64 (f k).f) rfl
        have z1 := R.at1 hlt (v := .int .i64 (f k).t) rfl
        have z2 := R.at2 hlt (v := .int .u64 (f k).h) rfl
        have z3 := R.at3 hlt (v := .int .u64 (f k).l) rfl
        have hstep : atI f m (k + 1) = if (f k).h = (f m).h ∧ (f k).l = (f m).l then (k : Int) else atI f m k := rfl
        replace hstep := hid hstep
        have hd := hM'.out k (by omega)
        unfold rdcmp at hd
        have KC := hid (fun w => cmp_any (f k).h (f k).l (f m).h (f m).l w)
        generalize cmpD (f k).h (f k).l (f m).h (f m).l = d at *
        have hd' : ¬ 0 < d := by omega
        have C1h := hid C1
        have Hbh := hid Hb
        have l1 := C1.lt
        have q0 := fun u : Later wr => u.blk C1
        have cc : ∀ (c oo : Nat) (v : Value), wr.cell? ⟨c, oo, none⟩ = some v → ∀ u : Later wr, u.val.cell? ⟨c, oo, none⟩ = some v := fun c oo v hv u => (u.cell c oo (cell_lt hv)).trans hv
        have a0 := cc _ _ _ z0
        have a1 := cc _ _ _ z1
        have a2 := cc _ _ _ z2
        have a3 := cc _ _ _ z3
        clear R C1 Hb cc z0 z1 z2 z3
        go_wp2_with fail
        refine wp_region_late 8 (by kernel_rfl) (by kernel_rfl) ?_
        simp only [List.take_succ_cons, List.take_zero, List.drop_succ_cons, List.drop_zero]
        iterate 8 (go_big_quiet_step ((go_at_call 25; (with_reducible exact late_call (KC.out _)))))
        refine wpQuiet_nil ?_
        intro w3 h3'
        have h3 := late_out h3'
        have C3 := C1h.out.more h3
        have R3 := hRh.out.below (Hbh.out.trans (h3.mono Hbh.out.size)) hbl
        have H3 := hid (Hbh.out.trans (h3.mono Hbh.out.size))
        clear h3' h3 a0 a1 a2 a3 q0 C1h Hbh
        have z0 := R3.at0 hlt (v := .int .i64 (f k).f) rfl
        have z1 := R3.at1 hlt (v := .int .i64 (f k).t) rfl
        have z2 := R3.at2 hlt (v := .int .u64 (f k).h) rfl
        have z3 := R3.at3 hlt (v := .int .u64 (f k).l) rfl
        have C3h := hid C3
        have l1 := C3.lt
        have q0 := fun u : Later w3 => u.blk C3
        have cc : ∀ (c oo : Nat) (v : Value), w3.cell? ⟨c, oo, none⟩ = some v → ∀ u : Later w3, u.val.cell? ⟨c, oo, none⟩ = some v := fun c oo v hv u => (u.cell c oo (cell_lt hv)).trans hv
        have a0 := cc _ _ _ z0
        have a1 := cc _ _ _ z1
        have a2 := cc _ _ _ z2
        have a3 := cc _ _ _ z3
        clear R3 C3 cc z0 z1 z2 z3
        generalize (f k).h = kh at *
        generalize (f k).l = kl at *
        generalize (f k).f = kf at *
        generalize (f k).t = kt at *
        generalize hmh : (f m).h = mh at *
        generalize hml : (f m).l = ml at *
        generalize hmf : (f m).f = mf at *
        generalize hmt : (f m).t = mt at *
        replace hmh := hid hmh
        replace hml := hid hml
        replace hmf := hid hmf
        replace hmt := hid hmt
        have hways : (kh = mh ∧ kl = ml) ∨ ((kh == mh) = false ∧ ¬ (kh = mh ∧ kl = ml)) ∨ (kh = mh ∧ (kl == ml) = false ∧ ¬ (kh = mh ∧ kl = ml)) := by
          by_cases e1 : kh = mh
          · by_cases e2 : kl = ml
            · exact .inl ⟨e1, e2⟩
            · exact .inr (.inr ⟨e1, by simp [e2], fun x => e2 x.2⟩)
          · exact .inr (.inl ⟨by simp [e1], fun x => e1 x.1⟩)
        rcases hways with ⟨rfl, rfl⟩ | ⟨e1, e2⟩ | ⟨rfl, e1, e2⟩
        · rw [if_pos ⟨rfl, rfl⟩] at hstep
          go_wp2_with fail
          refine wp_region_late 7 (by kernel_rfl) (by kernel_rfl) ?_
          simp only [List.take_succ_cons, List.take_zero, List.drop_succ_cons, List.drop_zero]
          iterate 7 (go_big_quiet_step (fail))
          refine wpQuiet_nil ?_
          intro w4 h4'
          have h4 := late_out h4'
          have C4 := hid (C3h.out.more h4)
          have H4 := hid (H3.out.trans (h4.mono H3.out.size))
          clear h4' h4 a0 a1 a2 a3 q0 C3h H3
          go_wp2_with fail
          go_roundw
          case rel => exact ⟨k + 1, by omega, by go_num, by rw [hstep.out], by rw [hmf.out, hmt.out, hmh.out, hml.out]; exact C4.out, H4.out⟩
          case measure => simp [intOf]; omega
        · rw [if_neg e2] at hstep
          replace e2 := hid e2
          go_wp2_with fail
          refine wp_region_late 7 (by kernel_rfl) (by kernel_rfl) ?_
          simp only [List.take_succ_cons, List.take_zero, List.drop_succ_cons, List.drop_zero]
          iterate 7 (go_big_quiet_step (fail))
          refine wpQuiet_nil ?_
          intro w4 h4'
          have h4 := late_out h4'
          have C4 := hid (C3h.out.more h4)
          have H4 := hid (H3.out.trans (h4.mono H3.out.size))
          clear h4' h4 a0 a1 a2 a3 q0 C3h H3
          go_wp2_with fail
          go_roundw
          case rel => exact ⟨k + 1, by omega, by go_num, by rw [hstep.out], by rw [hmf.out, hmt.out, hmh.out, hml.out]; exact C4.out, H4.out⟩
          case measure => simp [intOf]; omega
        · rw [if_neg e2] at hstep
          replace e2 := hid e2
          go_wp2_with fail
          refine wp_region_late 7 (by kernel_rfl) (by kernel_rfl) ?_
          simp only [List.take_succ_cons, List.take_zero, List.drop_succ_cons, List.drop_zero]
          iterate 7 (go_big_quiet_step (fail))
          refine wpQuiet_nil ?_
          intro w4 h4'
          have h4 := late_out h4'
          have C4 := hid (C3h.out.more h4)
          have H4 := hid (H3.out.trans (h4.mono H3.out.size))
          clear h4' h4 a0 a1 a2 a3 q0 C3h H3
          go_wp2_with fail
          go_roundw
          case rel => exact ⟨k + 1, by omega, by go_num, by rw [hstep.out], by rw [hmf.out, hmt.out, hmh.out, hml.out]; exact C4.out, H4.out⟩
          case measure => simp [intOf]; omega
      · obtain rfl : k = n := by omega
        rw [hat.out]
        have R := hRh.out.below Hb hbl
        have z0 := R.at0 hmn (v := .int .i64 (f m).f) rfl
        have z1 := R.at1 hmn (v := .int .i64 (f m).t) rfl
        have z2 := R.at2 hmn (v := .int .u64 (f m).h) rfl
        have z3 := R.at3 hmn (v := .int .u64 (f m).l) rfl
        have hm1 : (m : Int) < (k : Int) := by omega
        have Hbh := hid Hb
        have q0 := fun u : Later wr => u.blk C1
        have cc : ∀ (c oo : Nat) (v : Value), wr.cell? ⟨c, oo, none⟩ = some v → ∀ u : Later wr, u.val.cell? ⟨c, oo, none⟩ = some v := fun c oo v hv u => (u.cell c oo (cell_lt hv)).trans hv
        have a0 := cc _ _ _ z0
        have a1 := cc _ _ _ z1
        have a2 := cc _ _ _ z2
        have a3 := cc _ _ _ z3
        have hm0 : (0 : Int) ≤ (m : Int) := by omega
        clear R C1 Hb cc z0 z1 z2 z3
        go_wp2_with fail
        refine wp_region_late 8 (by kernel_rfl) (by kernel_rfl) ?_
        simp only [List.take_succ_cons, List.take_zero, List.drop_succ_cons, List.drop_zero]
        iterate 8 (go_big_quiet_step (fail))
        refine wpQuiet_nil ?_
        intro w4 h4'
        have h4 := late_out h4'
        have H4 := hid (Hbh.out.trans (h4.mono Hbh.out.size))
        clear h4' h4 a0 a1 a2 a3 q0 Hbh
        go_wp2_with fail
        go_ret
        exact ⟨rfl, H4.out⟩
end Go.Proofs.Ytahdhgaoofpefaa
