/-
  Layer 46: of a way that is thinned each is far enough from the last that was kept. The walk of TrackThins.
-/
import Derived.Test.YtjenhnigdgkkoaaTrackAlive
import Derived.Test.YtjenhnigdgkkoaaPlainPoints
import Derived.Test.YtjenhnigdgkkoaaWideTells
import Derived.Deep.DeepCutAuto
import Derived.Outline
namespace Go.Proofs.Ytjenhnigdgkkoaa
open Go.RowKit
set_option linter.unusedVariables false
set_option linter.unusedSimpArgs false

theorem thin_step_pos (h l : Int) (K : List Pt) (p : Pt) : 0 < (thinStep h l K p).length := by
  unfold thinStep
  split
  · rename_i g
    simp only [Bool.and_eq_true, decide_eq_true_eq] at g
    exact g.1
  · simp
theorem thin_pos (h l : Int) (f : Nat → Pt) : ∀ i, 0 < i → 0 < (keepL (thinStep h l) f i).length
  | i + 1, _ => thin_step_pos h l (keepL (thinStep h l) f i) (f i)
theorem near_less (h l : Int) (P Q : Pt) : (nearB h l P Q = true ∧ (dHi P Q < h ∨ (h = dHi P Q ∧ ¬ l < dLo P Q))) ∨ (nearB h l P Q = false ∧ (h < dHi P Q ∨ (h = dHi P Q ∧ l < dLo P Q))) := by
  unfold nearB
  generalize dHi P Q = a
  generalize dLo P Q = b
  by_cases g : cmpD a b h l ≤ 0
  · refine .inl ⟨decide_eq_true g, ?_⟩
    unfold cmpD orI cmpI at g
    repeat' split at g
    all_goals omega
  · refine .inr ⟨decide_eq_false g, ?_⟩
    unfold cmpD orI cmpI at g
    repeat' split at g
    all_goals omega

set_option maxRecDepth 100000 in
set_option maxHeartbeats 8000000 in
theorem trackThins (p : Option Addr) (n cap : Nat) (f : Nat → Pt) (hf : ∀ i, (f i).ok) (h1 : n ≤ cap) (h2 : cap ≤ maxLen) (h l : Int) (w : World) (HA : RowP w p 4 n (fun i => pcells (f i))) :
    Calls Try.prog 6 #[.slice p n cap, .agg #[.int .u64 h, .int .u64 l]] w fun e w' => e = .returned (.bool true) ∧ Below w.heap.size w w' := by
  obtain ⟨i0, hi, hz0, hz1, hz2⟩ := info_parts ptTab
  have hb0 : Below w.heap.size w (w.alloc (.cells #[.int .u64 h, .int .u64 l] 34)) := (Below.refl _ _).alloc (Nat.le_refl _) _
  have HAh := hid (HA.more hb0)
  have HD0 := hid (Blk.new w #[.int .u64 h, .int .u64 l] 34)
  have D0 := hid hb0
  have hfh := hid hf
  have h12 := hid (And.intro h1 h2)
  have KA := hid alive46
  have h2' : cap ≤ 9223372036854775807 := by unfold maxLen at h2; exact h2
  have HA0 := hid HA
  clear HA hf h2 hb0
  go_enter Try.func6, Try.ntmps6
  go_wp2_with fail
  refine (KA.out _).mono ?_
  rintro e w1 ⟨rfl, hb1⟩
  have D1 := hid (below2 D0.out hb1 D0.out.size)
  have HD1 := hid (HD0.out.more hb1)
  clear hb1 KA
  go_upto_if 14 with (fail)
  go_cut [0] (fun s wx => ∃ N, N ≤ n ∧ N ≤ 60 ∧ s = .slice p N cap ∧ Blk wx w.heap.size #[.int .u64 h, .int .u64 l] ∧ Below w.heap.size w wx)
  case first =>
    by_cases g : 60 < (n : Int)
    · have gc : (60 : Int) ≤ (cap : Int) := by omega
      go_wp2_with fail
      go_meet
      case rel => exact ⟨60, by omega, by omega, rfl, HD1.out, D1.out⟩
    · go_wp2_with fail
      go_meet
      case rel => exact ⟨n, by omega, by omega, rfl, HD1.out, D1.out⟩
  case rest =>
    obtain ⟨N, hN, hN60, rfl, hd2, hb2⟩ := hcut
    have D2 := hid hb2
    have HD2 := hid hd2
    have hNc : (N : Int) ≤ (cap : Int) := by omega
    have HN := hid (HA0.out.take hN)
    clear D1 hb2 HAh HA0 hd2 HD1 HD0 D0
    go_wp2_with fail
    go_loopw [5, 6] (fun v i wr => ∃ k : Nat, k ≤ N ∧ i = .int .i64 (k : Int) ∧ PtsOwn wr (w.heap.size + 1) v (keepL (thinStep h l) f k) ∧ Blk wr w.heap.size #[.int .u64 h, .int .u64 l] ∧ Below w.heap.size w wr) (fun _ i _ => N - (intOf i).toNat)
    case atStart => exact ⟨0, by omega, rfl, PtsOwn.nil _ _, HD2.out, D2.out⟩
    case round =>
      obtain ⟨k, hk, rfl, HK, hd, hb⟩ := hrel
      have hlen := keep_len (thin_len h l) f k
      obtain ⟨pv, cv, rfl, c1, c2, RV⟩ := HK.open
      have hbW := hid hb
      have hdW := hid hd
      have hgd : w.heap.size + 1 ≤ wr.heap.size := hd.lt
      by_cases hlt : k < N
      · have hlt1 : (k : Int) < (N : Int) := by omega
        obtain ⟨b, o, rfl, R0⟩ := HN.out.row (by omega)
        have R := R0.more hb
        have hzs : keepL (thinStep h l) f (k + 1) = thinStep h l (keepL (thinStep h l) f k) (f k) := rfl
        have z0 := R.at0 hlt (v := .int .i64 (f k).id) rfl
        have z1 := R.at1 hlt (v := .int .u32 (f k).x) rfl
        have z2 := R.at2 hlt (v := .int .u32 (f k).y) rfl
        have z3 := R.at3 hlt (v := .string (f k).d) rfl
        have zz := hid (And.intro (And.intro z0 z1) (And.intro z2 z3))
        cases k with
        | zero =>
          have hst : thinStep h l (keepL (thinStep h l) f 0) (f 0) = keepL (thinStep h l) f 0 ++ [f 0] := by simp [thinStep, keepL]
          rw [hst] at hzs
          obtain ⟨L, hLe⟩ : ∃ L, keepL (thinStep h l) f 0 = L := ⟨_, rfl⟩
          rw [hLe] at HK c1 RV hlen hzs ⊢
          replace hLe := hid hLe
          replace hzs := hid hzs
          unfold PtsOwn at HK
          have OO := hid HK
          simp only [Nat.zero_mul, Nat.add_zero] at z0 z1 z2 z3
          clear hst HK RV R R0 hb hd
          have hnews := hid (four_new wr #[.int .i64 (f 0).id, .int .u32 (f 0).x, .int .u32 (f 0).y, .string (f 0).d] 25)
          have hs3 := hbW.out.size
          have hs4 := hdW.out.lt
          go_wp2_with (at_builtin; refine wpList_append_own _ rfl _ _ 22 rfl (w.heap.size + 1) 25 i0 (.agg #[.int .i64 0, .int .u32 0, .int .u32 0, .string ByteArray.empty]) 4 32 Try.underlying22 hi hz0 hz1 hz2 rfl (by decide) (.slice pv L.length cv) L.length (flatP L) (by kernel_rfl) (OO.out.alloc _) ⟨wr.heap.size, 0, none⟩ 1 1 [.int .i64 (f 0).id, .int .u32 (f 0).x, .int .u32 (f 0).y, .string (f 0).d] (by kernel_rfl) rfl hnews.out (pt_one (f 0)) (by unfold maxLen; omega) (by omega) (by first | omega | (simp; omega)) ?_)
          intro v9 w9 hown hgrow hne
          have hO9 := hid (show PtsOwn w9 (w.heap.size + 1) v9 (L ++ [f 0]) by unfold PtsOwn; rw [flatP_append, flatP_one, List.length_append]; exact hown)
          have hb9 := hid ((hbW.out.alloc hbW.out.size _).grown hgrow (by simp; omega) (fun k hk => by have := (OO.out.lt k hk).1; omega))
          have hd9 := hid ((hdW.out.alloc _).sole (Sole.grown (S := fun k => (Value.slice pv L.length cv).ownBlock = some k) hgrow (fun k hk => hk)) (fun hk => by have := (OO.out.lt _ hk).1; omega))
          clear hown hgrow hne hnews hi hz0 hz1 hz2 z0 z1 z2 z3
          go_wp2_with fail
          go_roundw
          case rel => exact ⟨0 + 1, by omega, by go_num, by rw [hzs.out]; exact hO9.out, hd9.out, hb9.out⟩
          case measure => simp [intOf]; omega
        | succ j =>
          have hpos := thin_pos h l f (j + 1) (by omega)
          have hmemA : ∀ q ∈ keepL (thinStep h l) f (j + 1), q.ok := fun q hq => by
            obtain ⟨i, _, e⟩ := keep_mem (thin_mem h l) f (j + 1) q hq
            rw [e]; exact hfh.out i
          obtain ⟨L, hLe⟩ : ∃ L, keepL (thinStep h l) f (j + 1) = L := ⟨_, rfl⟩
          rw [hLe] at HK c1 RV hlen hzs hpos hmemA ⊢
          replace hLe := hid hLe
          obtain ⟨m, hm⟩ : ∃ m, L.length = m + 1 := ⟨L.length - 1, by omega⟩
          have hst : thinStep h l L (f (j + 1)) = if nearB h l (lastP L) (f (j + 1)) then L else L ++ [f (j + 1)] := by unfold thinStep; simp [hm]
          rw [hst] at hzs
          replace hzs := hid hzs
          have hlm : lastP L ∈ L := ptAt_mem L _ (by omega)
          have hlast : ptAt L m = lastP L := by unfold lastP; rw [hm]; rfl
          have hlo := hmemA _ hlm
          obtain ⟨b', o', e', RL⟩ := RV.row (by omega)
          subst e'
          have y0 := RL.at0 (i := m) (by omega) (v := .int .i64 (lastP L).id) (by show (pcells (ptAt L m))[0]? = _; rw [hlast]; rfl)
          have y1 := RL.at1 (i := m) (by omega) (v := .int .u32 (lastP L).x) (by show (pcells (ptAt L m))[1]? = _; rw [hlast]; rfl)
          have y2 := RL.at2 (i := m) (by omega) (v := .int .u32 (lastP L).y) (by show (pcells (ptAt L m))[2]? = _; rw [hlast]; rfl)
          have y3 := RL.at3 (i := m) (by omega) (v := .string (lastP L).d) (by show (pcells (ptAt L m))[3]? = _; rw [hlast]; rfl)
          have HB := Blk.new wr #[.int .i64 (lastP L).id, .int .u32 (lastP L).x, .int .u32 (lastP L).y, .string (lastP L).d] 25
          have hb1 : Below wr.heap.size wr (wr.alloc (.cells #[.int .i64 (lastP L).id, .int .u32 (lastP L).x, .int .u32 (lastP L).y, .string (lastP L).d] 25)) := (Below.refl _ _).alloc (Nat.le_refl _) _
          obtain ⟨W1, hW1⟩ : ∃ W1, wr.alloc (.cells #[.int .i64 (lastP L).id, .int .u32 (lastP L).x, .int .u32 (lastP L).y, .string (lastP L).d] 25) = W1 := ⟨_, rfl⟩
          rw [hW1] at HB hb1
          have up : ∀ (c oo : Nat) (v : Value), wr.cell? ⟨c, oo, none⟩ = some v → W1.cell? ⟨c, oo, none⟩ = some v := fun c oo v hv => (hb1.cell (p := ⟨c, oo, none⟩) (cell_lt hv)).trans hv
          have zz1 := hid (And.intro (And.intro (up _ _ _ z0) (up _ _ _ z1)) (And.intro (up _ _ _ z2) (up _ _ _ z3)))
          have a1 := up _ _ _ z1
          have a2 := up _ _ _ z2
          have HK1 := hid (HK.more hb1)
          have hd1 := hid (hd.more hb1)
          have hbb1 := hid (hb.trans (hb1.mono hb.size))
          have hok := hfh.out (j + 1)
          unfold Pt.ok at hok hlo
          have KB : Hid (∀ w, Calls Try.prog 20 #[.int .u32 (lastP L).x, .int .u32 (lastP L).y, .int .u32 (f (j + 1)).x, .int .u32 (f (j + 1)).y] w fun e w' => e = .returned (.tuple #[.int .u64 (dHi (lastP L) (f (j + 1))), .int .u64 (dLo (lastP L) (f (j + 1)))]) ∧ w = w') :=
            hid (fun w => ref_between _ _ _ _ (by omega) (by omega) (by omega) (by omega) (by omega) (by omega) (by omega) (by omega) w)
          have ways := near_less h l (lastP L) (f (j + 1))
          generalize nearB h l (lastP L) (f (j + 1)) = nb at *
          generalize dHi (lastP L) (f (j + 1)) = dh at *
          generalize dLo (lastP L) (f (j + 1)) = dl at *
          replace ways := hid ways
          have hj0 : (0 : Int) < (j : Int) + 1 := by omega
          have hm1 : (m : Int) ≤ 60 := by omega
          have hmlt : (m : Int) < ((m + 1 : Nat) : Int) := by omega
          have hmh := hid hm
          have hL60 := hid (show L.length ≤ 60 by omega)
          have hq0 : (0 : Int) ≤ (j : Int) + 1 := by omega
          have hq3 : (j : Int) + 1 < (N : Int) := by omega
          have hw1 : IntKind.i64.wrap ((j : Int) + 1) = (j : Int) + 1 := IntWalk.i64_in _ ⟨by omega, by omega⟩
          have hq6 : ((j : Int) + 1).toNat = j + 1 := by omega
          have HBh := hid HB
          clear up z0 z1 z2 z3 hst RL RV HK R R0 hb hd hb1 HB hmemA hlm hlast hok hlo hpos hlen
          rw [hm]
          clear hm
          generalize lastP L = L0 at *
          obtain ⟨qi, qx, qy, qd⟩ := L0
          simp only at *
          go_wp2_with fail
          clear y0 y1 y2 y3
          have hkW := hid (show W1.cell? ⟨wr.heap.size, 0, none⟩ = some (.int .i64 qi) ∧ W1.cell? ⟨wr.heap.size, 1, none⟩ = some (.int .u32 qx) ∧ W1.cell? ⟨wr.heap.size, 2, none⟩ = some (.int .u32 qy) ∧ W1.cell? ⟨wr.heap.size, 3, none⟩ = some (.string qd) ∧ W1.cell? ⟨b, o + (j + 1) * 4 + 1, none⟩ = some (.int .u32 (f (j + 1)).x) ∧ W1.cell? ⟨b, o + (j + 1) * 4 + 2, none⟩ = some (.int .u32 (f (j + 1)).y) from ⟨HBh.out.cell 0, HBh.out.cell 1, HBh.out.cell 2, HBh.out.cell 3, a1, a2⟩)
          clear a1 a2
          go_region_held3 (fun w' => w'.cell? ⟨wr.heap.size, 0, none⟩ = some (.int .i64 qi) ∧ w'.cell? ⟨wr.heap.size, 1, none⟩ = some (.int .u32 qx) ∧ w'.cell? ⟨wr.heap.size, 2, none⟩ = some (.int .u32 qy) ∧ w'.cell? ⟨wr.heap.size, 3, none⟩ = some (.string qd) ∧ w'.cell? ⟨b, o + (j + 1) * 4 + 1, none⟩ = some (.int .u32 (f (j + 1)).x) ∧ w'.cell? ⟨b, o + (j + 1) * 4 + 2, none⟩ = some (.int .u32 (f (j + 1)).y)) (first | exact hkW.out | go_keep)
            (((with_reducible refine (KB.out _).mono ?_); rintro e w3 ⟨rfl, rfl⟩))
          have h3 : Below W1.heap.size W1 W1.drew := (Below.refl _ _).drew
          obtain ⟨w3, hw3⟩ : ∃ w3, W1.drew = w3 := ⟨_, rfl⟩
          rw [hw3] at h3 ⊢
          clear hw3
          have hb3 := hid (hbb1.out.trans (h3.mono hbb1.out.size))
          have hd3 := hid (hd1.out.more h3)
          have HK3 := hid (HK1.out.more h3)
          have up3 : ∀ (c oo : Nat) (v : Value), W1.cell? ⟨c, oo, none⟩ = some v → w3.cell? ⟨c, oo, none⟩ = some v := fun c oo v hv => (h3.cell (p := ⟨c, oo, none⟩) (cell_lt hv)).trans hv
          have zz3 := hid (And.intro (And.intro (up3 _ _ _ zz1.out.1.1) (up3 _ _ _ zz1.out.1.2)) (And.intro (up3 _ _ _ zz1.out.2.1) (up3 _ _ _ zz1.out.2.2)))
          clear up3
          clear h3 zz1 KB
          obtain ⟨ld, kd, fd⟩ := hd3.out
          rcases ways.out with ⟨g, gl⟩ | ⟨g, gl⟩
          · have KL := hid (fun w => less_no h l dh dl (by omega) w)
            subst g
            clear gl ways
            go_wp2_with fail
            refine (KL.out _).mono ?_
            rintro e w4 ⟨rfl, rfl⟩
            go_wp2_with fail
            go_roundw
            case rel => exact ⟨j + 1 + 1, by omega, by go_num, by rw [hzs.out, ← hmh.out]; simpa using HK3.out, hd3.out, hb3.out⟩
            case measure => simp [intOf]; omega
          · have KL := hid (fun w => less_yes h l dh dl (by omega) w)
            subst g
            clear gl ways
            go_wp2_with fail
            refine (KL.out _).mono ?_
            rintro e w4 ⟨rfl, rfl⟩
            rw [← hmh.out]
            obtain ⟨⟨r0, r1⟩, r2, r3⟩ := zz3.out
            have hO3 := HK3.out
            unfold PtsOwn at hO3
            have OO := hid hO3
            have hL6 := hL60.out
            clear hO3
            have hnews := hid (four_new w3 #[.int .i64 (f (j + 1)).id, .int .u32 (f (j + 1)).x, .int .u32 (f (j + 1)).y, .string (f (j + 1)).d] 25)
            have hs3 := hb3.out.size
            have hs4 := hd3.out.lt
            go_wp2_with (at_builtin; refine wpList_append_own _ rfl _ _ 22 rfl (w.heap.size + 1) 25 i0 (.agg #[.int .i64 0, .int .u32 0, .int .u32 0, .string ByteArray.empty]) 4 32 Try.underlying22 hi hz0 hz1 hz2 rfl (by decide) (.slice (some ⟨b', o', none⟩) L.length cv) L.length (flatP L) (by kernel_rfl) (OO.out.alloc _) ⟨w3.heap.size, 0, none⟩ 1 1 [.int .i64 (f (j + 1)).id, .int .u32 (f (j + 1)).x, .int .u32 (f (j + 1)).y, .string (f (j + 1)).d] (by kernel_rfl) rfl hnews.out (pt_one (f (j + 1))) (by unfold maxLen; omega) (by omega) (by first | omega | (simp; omega)) ?_)
            intro v9 w9 hown hgrow hne
            have hO9 := hid (show PtsOwn w9 (w.heap.size + 1) v9 (L ++ [f (j + 1)]) by unfold PtsOwn; rw [flatP_append, flatP_one, List.length_append]; exact hown)
            have hb9 := hid ((hb3.out.alloc hb3.out.size _).grown hgrow (by simp; omega) (fun k hk => by have := (OO.out.lt k hk).1; omega))
            have hd9 := hid ((hd3.out.alloc _).sole (Sole.grown (S := fun k => (Value.slice (some ⟨b', o', none⟩) L.length cv).ownBlock = some k) hgrow (fun k hk => hk)) (fun hk => by have := (OO.out.lt _ hk).1; omega))
            clear hown hgrow hne hnews hi hz0 hz1 hz2 r0 r1 r2 r3
            go_wp2_with fail
            go_roundw
            case rel => exact ⟨(j + 1) + 1, by omega, by go_num, by rw [hzs.out]; simpa using hO9.out, hd9.out, hb9.out⟩
            case measure => simp [intOf]; omega
      · obtain rfl : k = N := by omega
        obtain ⟨m1, m2⟩ := h12.out
        have KT := hid (fun wx (hbx : Below w.heap.size w wx) => thin_any h l p k cap f hfh.out (by omega) m2 hN60 wx (HN.out.more hbx))
        obtain ⟨L, hLe⟩ : ∃ L, keepL (thinStep h l) f k = L := ⟨_, rfl⟩
        rw [hLe] at HK c1 RV hlen KT ⊢
        replace hLe := hid hLe
        have RVh := hid RV
        have c2' := hid (And.intro c1 c2)
        unfold dval at KT
        obtain ⟨ld, kd, fd⟩ := hdW.out
        clear HK RV hb hd hi hz0 hz1 hz2
        go_wp2_with fail
        refine (KT.out _ hbW.out).mono ?_
        rintro e w3 ⟨v, rfl, ⟨q, c, rfl, d1, d2, RT⟩, hb3⟩
        have RTh := hid RT
        have RV3 := hid (RVh.out.more hb3)
        have hbW3 := hid (below2 hbW.out hb3 hbW.out.size)
        have dd := hid (And.intro d1 d2)
        clear hb3 RT d1 d2 KT ld kd fd
        go_wp2_with fail
        refine (plainPoints_same q pv L.length c cv (ptAt L) dd.out.1 dd.out.2 c2'.out.1 c2'.out.2 _ RTh.out RV3.out).mono ?_
        rintro e w4 ⟨rfl, hb4⟩
        have hbW4 := hid (below2 hbW3.out hb4 hbW3.out.size)
        clear hb4
        go_wp2_with fail
        go_ret
        exact ⟨rfl, hbW4.out⟩
end Go.Proofs.Ytjenhnigdgkkoaa
