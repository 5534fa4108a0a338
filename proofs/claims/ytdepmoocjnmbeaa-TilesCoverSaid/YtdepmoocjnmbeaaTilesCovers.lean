/-
  Layer 41: a window's cells are no more than were asked for; each place of the window is in just one of them; all meet the window.
-/
import Derived.Test.YtdepmoocjnmbeaaTilesCoverNone
namespace Go.Proofs.Ytdepmoocjnmbeaa
open Go.RowKit
set_option linter.unusedVariables false
set_option linter.unusedSimpArgs false

/-- How many of the first k have a place. -/
def cntI (L : List Cl) (X Y : Int) (k : Nat) : Nat := (L.take k).countP (inC X Y)
theorem cntI_succ (L : List Cl) (X Y : Int) (k : Nat) (h : k < L.length) : cntI L X Y (k + 1) = cntI L X Y k + (if inC X Y (atR clT L k) = true then 1 else 0) := by
  unfold cntI
  rw [List.take_succ_eq_append_getElem h, List.countP_append, atR_eq L k h]
  simp [List.countP_cons]
theorem cntI_le (L : List Cl) (X Y : Int) (k : Nat) : cntI L X Y k ≤ k := by
  have h1 := List.countP_le_length (p := inC X Y) (l := L.take k)
  have h2 := List.length_take_le k L
  unfold cntI
  omega

set_option maxRecDepth 100000 in
set_option maxHeartbeats 16000000 in
theorem tilesCover (r : Rc) (ha : 0 ≤ r.a) (ha' : r.a ≤ 4294967295) (hb : 0 ≤ r.b) (hb' : r.b ≤ 4294967295) (hc : 0 ≤ r.c) (hc' : r.c ≤ 4294967295) (hd : 0 ≤ r.d) (hd' : r.d ≤ 4294967295) (most x y : Int) (hx : 0 ≤ x) (hx' : x ≤ 4294967295) (hy : 0 ≤ y) (hy' : y ≤ 4294967295) (w : World) :
    Calls Try.prog 3 #[r.v, .int .i64 most, .int .u32 x, .int .u32 y] w fun e w' => e = .returned (.bool true) ∧ Below w.heap.size w w' := by
  have KA := hid (fun w => alive41 w)
  have KN := hid (fun w => near_val most w)
  have KE := hid (fun w => empty_any r.a r.b r.c r.d w)
  obtain ⟨M, hM⟩ : ∃ M, M = min (max most 1) 20 := ⟨_, rfl⟩
  have hM1 := hid (show min (max M 1) 256 = M by omega)
  rw [← hM] at KN
  have b1 := tbelow_one w (.cells #[.int .u32 r.a, .int .u32 r.b, .int .u32 r.c, .int .u32 r.d] 24)
  have BR := hid (Blk.new w #[.int .u32 r.a, .int .u32 r.b, .int .u32 r.c, .int .u32 r.d] 24)
  have D0 := hid b1
  have KC0 := hid (fun h w => cover_none r h M w)
  have KC1 := hid (fun (h : emptyB r.a r.b r.c r.d = false) w => gcover_any r ha hc' hb hd' (by unfold emptyB at h; simp at h; omega) (by unfold emptyB at h; simp at h; omega) M w)
  obtain ⟨X, hX⟩ : ∃ X, min (max x r.a) r.c = X := ⟨_, rfl⟩
  obtain ⟨Y, hY⟩ : ∃ Y, min (max y r.b) r.d = Y := ⟨_, rfl⟩
  have hXb := hid (show 0 ≤ X ∧ X ≤ 4294967295 ∧ 0 ≤ Y ∧ Y ≤ 4294967295 by omega)
  have hin := hid (fun (h : emptyB r.a r.b r.c r.d = false) => show inR r X Y by unfold emptyB at h; simp at h; unfold inR; omega)
  have hMM := hid (show M = min (max most 1) 20 from hM)
  clear b1 ha ha' hb hb' hc hc' hd hd' hx hx' hy hy' hM
  go_enter Try.func3, Try.ntmps3
  go_wp2_with fail
  refine (KA.out _).mono ?_
  rintro e w1 ⟨rfl, hb1⟩
  have D1 := hid (below2 D0.out hb1 D0.out.size)
  have BR1 := hid (BR.out.more hb1)
  clear hb1 KA D0 BR
  go_wp2_with fail
  refine (KN.out _).mono ?_
  rintro e w2 ⟨rfl, hw2⟩
  rw [hw2]
  clear hw2 w2 KN
  obtain ⟨lr, mr, fr⟩ := BR1.out
  go_wp2_with fail
  obtain ⟨E, hE⟩ : ∃ b, b = emptyB r.a r.b r.c r.d := ⟨_, rfl⟩
  cases E with
  | true =>
    refine (KC0.out hE.symm _).mono ?_
    rintro e w3 ⟨rfl, hb3⟩
    have D3 := hid (below2 D1.out hb3 D1.out.size)
    have BR3 := hid (BR1.out.more hb3)
    clear lr mr fr hb3
    rw [← hE] at KE
    obtain ⟨lr, mr, fr⟩ := BR3.out
    clear hE
    go_wp2_with fail
    refine (KE.out _).mono ?_
    rintro e w4 ⟨rfl, hb4⟩
    have D4 := hid (below2 D3.out hb4 D3.out.size)
    clear hb4 lr mr fr
    go_wp2_with fail
    go_ret
    exact ⟨rfl, D4.out⟩
  | false =>
    refine (KC1.out hE.symm _).mono ?_
    rintro e w3 ⟨L, p, c, rfl, O3, HC, hb3⟩
    have D3 := hid (below2 D1.out hb3 D1.out.size)
    have BR3 := hid (BR1.out.more hb3)
    have RL3 := hid (own_rowof O3)
    have HCh := hid HC
    have hcap := hid (show L.length ≤ c ∧ c ≤ maxLen by obtain ⟨p', c', e', g1, g2, _⟩ := RowOwn.open clOk O3; simp only [Value.slice.injEq] at e'; omega)
    have hinh := hid (hin.out hE.symm)
    clear lr mr fr hb3 O3 HC hin
    rw [← hE] at KE
    obtain ⟨lr, mr, fr⟩ := BR3.out
    clear hE
    obtain ⟨n, hn⟩ : ∃ n, n = L.length := ⟨_, rfl⟩
    rw [← hn]
    have hnM : (n : Int) ≤ M := by have h := HCh.out.le; rw [hM1.out] at h; omega
    have hn20 : (n : Int) ≤ 20 := by have := hMM.out; omega
    have hn1 : (1 : Int) ≤ (n : Int) := by have := HCh.out.one; omega
    replace hn := hid hn
    go_wp2_with fail
    refine (KE.out _).mono ?_
    rintro e w4 ⟨rfl, hb4⟩
    have D4 := hid (below2 D3.out hb4 D3.out.size)
    have BR4 := hid (BR3.out.more hb4)
    have RL4 := hid (show RowP w4 p 3 n (fun i => clT.cells (atR clT L i)) by have h := RL3.out.more hb4; unfold RowOf at h; rw [← hn.out] at h; exact h)
    clear hb4 lr mr fr
    go_wp2_with fail
    obtain ⟨lr, mr, fr⟩ := BR4.out
    have D5 := D4
    have BR5 := BR4
    have RL5 := RL4
    go_region
    clear D4 BR4 RL4 lr mr fr hX hY D3 BR3 RL3 D1 BR1 KE KC0 KC1
    have dr : Below w4.heap.size w4 w4.drew := ⟨rfl, rfl, rfl, Nat.le_refl _, fun _ _ => rfl⟩
    have D6 := hid (below2 D5.out dr D5.out.size)
    have BR6 := hid (BR5.out.more dr)
    have RL6 := hid (RL5.out.more dr)
    clear dr D5 BR5 RL5
    obtain ⟨b, o, rfl, R0⟩ := RL6.out.row (by omega)
    have RL7 := hid R0
    clear R0 RL6
    go_wp2_with fail
    generalize w4.drew = V at *
    go_loopw [10, 11] (fun v i wr => ∃ k : Nat, k ≤ n ∧ i = .int .i64 (k : Int) ∧ v = .int .i64 ((cntI L X Y k : Nat) : Int) ∧ Below V.heap.size V wr) (fun _ i _ => n - (intOf i).toNat)
    case atStart => exact ⟨0, by omega, rfl, rfl, Below.refl _ _⟩
    case round =>
      obtain ⟨k, hk, rfl, rfl, hb⟩ := hrel
      have hbh := hid hb
      by_cases hlt : k < n
      · have hlt' : (k : Int) < (n : Int) := by omega
        have hkL := hid (show k < L.length by rw [← hn.out]; exact hlt)
        have hkm := hid (show k + 1 ≤ n by omega)
        obtain ⟨C, hC⟩ : ∃ C, C = atR clT L k := ⟨_, rfl⟩
        have hmem := hid (atR_mem (T := clT) L k hkL.out)
        rw [← hC] at hmem
        have hok := hid (HCh.out.ok.ok C hmem.out)
        have hmt := hid (HCh.out.ok.meet C hmem.out)
        have hcs := cntI_succ L X Y k hkL.out
        rw [← hC] at hcs
        have hce := hid (cntI_le L X Y k)
        have KH := fun w => has_any C.x C.y C.l X Y hXb.out.1 hXb.out.2.1 hXb.out.2.2.1 hXb.out.2.2.2 hok.out.x0 hok.out.x1 hok.out.y0 hok.out.y1 w
        rw [has_in hok.out] at KH
        have KCk := hid (fun w => check_ok hok.out w)
        have KRt := fun w => grect_any C hok.out w
        have KMt := fun w => meets_any C.x C.y (C.x + (pw C.l - 1)) (C.y + (pw C.l - 1)) r.a r.b r.c r.d w
        have hmt2 : meetsB C.x C.y (C.x + (pw C.l - 1)) (C.y + (pw C.l - 1)) r.a r.b r.c r.d = true := hmt.out
        rw [hmt2] at KMt
        clear hmt2 hmem
        obtain ⟨X1, hX1⟩ : ∃ X, X = C.x + (pw C.l - 1) := ⟨_, rfl⟩
        obtain ⟨Y1, hY1⟩ : ∃ X, X = C.y + (pw C.l - 1) := ⟨_, rfl⟩
        rw [← hX1, ← hY1] at KRt KMt
        clear hX1 hY1
        replace KRt := hid KRt
        replace KMt := hid KMt
        obtain ⟨Hb, hHb⟩ : ∃ b : Bool, b = inC X Y C := ⟨_, rfl⟩
        rw [← hHb] at KH hcs
        clear hHb
        replace KH := hid KH
        obtain ⟨cz, hcz⟩ : ∃ z, z = cntI L X Y k := ⟨_, rfl⟩
        rw [← hcz] at hcs hce ⊢
        have hcz20 : (cz : Int) ≤ 20 := by have := hce.out; omega
        have hcs2 := hid hcs
        clear hcs hcz hk
        replace hC := hid hC
        have RR := RL7.out.more hb
        have y0 := RR.at0 hlt (v := .int .u32 C.x) (by rw [hC.out]; rfl)
        have y1 := RR.at1 hlt (v := .int .u32 C.y) (by rw [hC.out]; rfl)
        have y2 := RR.at2 hlt (v := .int .i64 C.l) (by rw [hC.out]; rfl)
        clear hb RR
        go_wp2_with fail
        refine (KH.out _).mono ?_
        rintro e w7 ⟨rfl, hb7⟩
        have D7 := hid (below2 hbh.out hb7 hbh.out.size)
        have BRr := hid (BR6.out.more D7.out)
        have Rr := hid (RL7.out.more D7.out)
        clear hb7 y0 y1 y2 KH
        cases Hb with
        | true =>
          go_wp2_with fail
          have q0 := fun u : Later w7 => u.blk BRr.out
          have q1 := fun u : Later w7 => (Rr.out.more u.h).at0 hlt (v := .int .u32 C.x) (by rw [hC.out]; rfl)
          have q2 := fun u : Later w7 => (Rr.out.more u.h).at1 hlt (v := .int .u32 C.y) (by rw [hC.out]; rfl)
          have q3 := fun u : Later w7 => (Rr.out.more u.h).at2 hlt (v := .int .i64 C.l) (by rw [hC.out]; rfl)
          refine wp_region_late 15 (by kernel_rfl) (by kernel_rfl) ?_
          simp only [List.take_succ_cons, List.take_zero, List.drop_succ_cons, List.drop_zero]
          iterate 15 (go_big_quiet_step ((first | (go_at_call 11; (with_reducible exact late_call (KCk.out _))) | (go_at_call 13; (with_reducible exact late_call (KRt.out _))) | (go_at_call 12; (with_reducible exact late_call (KMt.out _))))))
          refine wpQuiet_nil ?_
          intro w8 h8'
          have h8 := late_out h8'
          have D8 := hid (below2 D7.out h8 D7.out.size)
          clear h8 h8' q0 q1 q2 q3
          go_wp2_with fail
          go_roundw
          case rel => exact ⟨k + 1, hkm.out, by go_num, by rw [hcs2.out]; simp, D8.out⟩
          case measure => have := hkm.out; simp [intOf]; omega
        | false =>
          go_wp2_with fail
          have q0 := fun u : Later w7 => u.blk BRr.out
          have q1 := fun u : Later w7 => (Rr.out.more u.h).at0 hlt (v := .int .u32 C.x) (by rw [hC.out]; rfl)
          have q2 := fun u : Later w7 => (Rr.out.more u.h).at1 hlt (v := .int .u32 C.y) (by rw [hC.out]; rfl)
          have q3 := fun u : Later w7 => (Rr.out.more u.h).at2 hlt (v := .int .i64 C.l) (by rw [hC.out]; rfl)
          refine wp_region_late 15 (by kernel_rfl) (by kernel_rfl) ?_
          simp only [List.take_succ_cons, List.take_zero, List.drop_succ_cons, List.drop_zero]
          iterate 15 (go_big_quiet_step ((first | (go_at_call 11; (with_reducible exact late_call (KCk.out _))) | (go_at_call 13; (with_reducible exact late_call (KRt.out _))) | (go_at_call 12; (with_reducible exact late_call (KMt.out _))))))
          refine wpQuiet_nil ?_
          intro w8 h8'
          have h8 := late_out h8'
          have D8 := hid (below2 D7.out h8 D7.out.size)
          clear h8 h8' q0 q1 q2 q3
          go_wp2_with fail
          go_roundw
          case rel => exact ⟨k + 1, hkm.out, by go_num, by rw [hcs2.out]; simp, D8.out⟩
          case measure => have := hkm.out; simp [intOf]; omega

      · have hlt' : ¬ (k : Int) < (n : Int) := by omega
        obtain rfl : k = n := by omega
        have hone := hid (show cntI L X Y k = 1 by
          have h := HCh.out.ok.one X Y hinh.out
          unfold cntI
          rw [hn.out, List.take_length]
          exact h)
        rw [hone.out]
        have D7 := hid (below2 D6.out hb D6.out.size)
        have hkM : (k : Int) ≤ M := hnM
        clear hb hbh hk
        go_wp2_with fail
        go_ret
        exact ⟨rfl, D7.out⟩
end Go.Proofs.Ytdepmoocjnmbeaa
