/-
  Layer 41: no cell that the window does not have wholly could be replaced by its quarters within what was asked for, unless it is a single place.
-/
import Derived.Test.YtdepmoocjnmbeaaTilesCoverNone
namespace Go.Proofs.Ytdepmoocjnmbeaa
open Go.RowKit
set_option linter.unusedVariables false
set_option linter.unusedSimpArgs false

/-- Cover of any window, empty or not: its cells can't be made finer. -/
theorem cover_both (r : Rc) (ha : 0 ≤ r.a) (hc' : r.c ≤ 4294967295) (hb : 0 ≤ r.b) (hd' : r.d ≤ 4294967295) (M : Int) (hM : min (max M 1) 256 = M) (w : World) :
    Calls Try.prog 8 #[r.v, .int .i64 M] w fun e w' => ∃ L p c, e = .returned (.slice p (L : List Cl).length c) ∧ RowOf clT w' p L ∧ (∀ i, i < L.length → okC (atR clT L i) ∧ isB r M L.length (atR clT L i) = false) ∧ (L.length : Int) ≤ M ∧ Below w.heap.size w w' := by
  cases hE : emptyB r.a r.b r.c r.d with
  | true =>
    refine (cover_none r hE M w).mono ?_
    rintro e w' ⟨rfl, hb⟩
    exact ⟨[], none, 0, rfl, .inl rfl, fun i hi => absurd hi (by simp), by have : (([] : List Cl).length : Int) = 0 := rfl; omega, hb⟩
  | false =>
    refine (gcover_any r ha hc' hb hd' (by unfold emptyB at hE; simp at hE; omega) (by unfold emptyB at hE; simp at hE; omega) M w).mono ?_
    rintro e w' ⟨L, p, c, rfl, O, HC, hb⟩
    rw [hM] at HC
    exact ⟨L, p, c, rfl, own_rowof O, fun i hi => ⟨HC.ok.ok _ (atR_mem (T := clT) L i hi), HC.stops i hi⟩, HC.le, hb⟩

set_option maxRecDepth 100000 in
set_option maxHeartbeats 16000000 in
theorem tilesStops (r : Rc) (ha : 0 ≤ r.a) (ha' : r.a ≤ 4294967295) (hb : 0 ≤ r.b) (hb' : r.b ≤ 4294967295) (hc : 0 ≤ r.c) (hc' : r.c ≤ 4294967295) (hd : 0 ≤ r.d) (hd' : r.d ≤ 4294967295) (most : Int) (w : World) :
    Calls Try.prog 4 #[r.v, .int .i64 most] w fun e w' => e = .returned (.bool true) ∧ Below w.heap.size w w' := by
  have KA := hid (fun w => alive41 w)
  have KN := hid (fun w => near_val most w)
  obtain ⟨M, hM⟩ : ∃ M, M = min (max most 1) 20 := ⟨_, rfl⟩
  rw [← hM] at KN
  have KC := hid (fun w => cover_both r ha hc' hb hd' M (by omega) w)
  have hM20 := hid (show M ≤ 20 by omega)
  have b1 := tbelow_one w (.cells #[.int .u32 r.a, .int .u32 r.b, .int .u32 r.c, .int .u32 r.d] 24)
  have BR := hid (Blk.new w #[.int .u32 r.a, .int .u32 r.b, .int .u32 r.c, .int .u32 r.d] 24)
  have D0 := hid b1
  clear b1 ha ha' hb hb' hc hc' hd hd' hM
  go_enter Try.func4, Try.ntmps4
  go_wp2_with fail
  refine (KA.out _).mono ?_
  rintro e w1 ⟨rfl, hb1⟩
  have D1 := hid (below2 D0.out hb1 D0.out.size)
  have BR1 := hid (BR.out.more hb1)
  clear hb1 KA D0 BR
  go_wp2_with fail
  refine (KN.out _).mono ?_
  rintro e w2 ⟨rfl, hw2⟩
  rw [hw2]
  clear hw2 w2 KN
  obtain ⟨lr, mr, fr⟩ := BR1.out
  go_wp2_with fail
  refine (KC.out _).mono ?_
  rintro e w3 ⟨L, p, c, rfl, RL, HL, hLM, hb3⟩
  have D3 := hid (below2 D1.out hb3 D1.out.size)
  have BR3 := hid (BR1.out.more hb3)
  have HLh := hid HL
  have RLh := hid RL
  clear lr mr fr hb3 HL RL KC D1 BR1
  obtain ⟨n, hn⟩ : ∃ n, n = L.length := ⟨_, rfl⟩
  have RL3 : Hid (RowP w3 p 3 n (fun i => clT.cells (atR clT L i))) := hid (by have h := RLh.out; unfold RowOf at h; rw [← hn] at h; exact h)
  rw [← hn] at hLM HLh ⊢
  have hn20 : (n : Int) ≤ 20 := by have := hM20.out; omega
  clear RLh
  replace hn := hid hn
  replace hLM := hid hLM
  go_wp2_with fail
  go_loopw [6] (fun i wr => ∃ k : Nat, k ≤ n ∧ i = .int .i64 (k : Int) ∧ Below w3.heap.size w3 wr) (fun i _ => n - (intOf i).toNat)
  case atStart => exact ⟨0, by omega, rfl, Below.refl _ _⟩
  case round =>
    obtain ⟨k, hk, rfl, hb⟩ := hrel
    have hbh := hid hb
    by_cases hlt : k < n
    · have hlt' : (k : Int) < (n : Int) := by omega
      have hkm := hid (show k + 1 ≤ n by omega)
      have hmeas := hid (tmeas n k hlt)
      obtain ⟨C, hC⟩ : ∃ C, C = atR clT L k := ⟨_, rfl⟩
      have hok := hid ((HLh.out k hlt).1)
      have hno := hid ((HLh.out k hlt).2)
      rw [← hC] at hok hno
      replace hC := hid hC
      have KRt := fun w => grect_any C hok.out w
      have KWi := fun w => within_any C.x C.y (C.x + (pw C.l - 1)) (C.y + (pw C.l - 1)) r.a r.b r.c r.d w
      obtain ⟨Wi, hWi⟩ : ∃ b, b = wiB r C := ⟨_, rfl⟩
      have hWi' : withinB C.x C.y (C.x + (pw C.l - 1)) (C.y + (pw C.l - 1)) r.a r.b r.c r.d = Wi := hWi.symm
      rw [hWi'] at KWi
      clear hWi'
      replace hWi := hid hWi
      obtain ⟨X1, hX1⟩ : ∃ X, X = C.x + (pw C.l - 1) := ⟨_, rfl⟩
      obtain ⟨Y1, hY1⟩ : ∃ X, X = C.y + (pw C.l - 1) := ⟨_, rfl⟩
      rw [← hX1, ← hY1] at KRt KWi
      clear hX1 hY1
      replace KRt := hid KRt
      replace KWi := hid KWi
      have BRr := hid (BR3.out.more hb)
      obtain ⟨b, o, rfl, R0⟩ := RL3.out.row (by omega)
      have Rr := hid (R0.more hb)
      have R00 := hid R0
      obtain ⟨V, rfl⟩ : ∃ V, V = wr := ⟨_, rfl⟩
      clear hb hk R0
      by_cases h32 : C.l = 32
      · have h32b : (C.l == 32) = true := by rw [h32]; rfl
        clear h32
        cases Wi with
        | true =>
          go_wp2_with fail
          have q0 := fun u : Later V => u.blk BRr.out
          have q1 := fun u : Later V => (Rr.out.more u.h).at0 hlt (v := .int .u32 C.x) (by rw [hC.out]; rfl)
          have q2 := fun u : Later V => (Rr.out.more u.h).at1 hlt (v := .int .u32 C.y) (by rw [hC.out]; rfl)
          have q3 := fun u : Later V => (Rr.out.more u.h).at2 hlt (v := .int .i64 C.l) (by rw [hC.out]; rfl)
          refine wp_region_late 14 (by kernel_rfl) (by kernel_rfl) ?_
          simp only [List.take_succ_cons, List.take_zero, List.drop_succ_cons, List.drop_zero]
          iterate 14 (go_big_quiet_step ((first | (go_at_call 13; (with_reducible exact late_call (KRt.out _))) | (go_at_call 14; (with_reducible exact late_call (KWi.out _))))))
          refine wpQuiet_nil ?_
          intro w8 h8'
          have h8 := late_out h8'
          have D8 := hid (below2 hbh.out h8 hbh.out.size)
          clear h8 h8' q0 q1 q2 q3
          go_wp2_with fail
          go_roundw
          case rel => exact ⟨k + 1, hkm.out, by go_num, D8.out⟩
          case measure => have := hkm.out; simp [intOf]; omega
        | false =>
          go_wp2_with fail
          have q0 := fun u : Later V => u.blk BRr.out
          have q1 := fun u : Later V => (Rr.out.more u.h).at0 hlt (v := .int .u32 C.x) (by rw [hC.out]; rfl)
          have q2 := fun u : Later V => (Rr.out.more u.h).at1 hlt (v := .int .u32 C.y) (by rw [hC.out]; rfl)
          have q3 := fun u : Later V => (Rr.out.more u.h).at2 hlt (v := .int .i64 C.l) (by rw [hC.out]; rfl)
          refine wp_region_late 14 (by kernel_rfl) (by kernel_rfl) ?_
          simp only [List.take_succ_cons, List.take_zero, List.drop_succ_cons, List.drop_zero]
          iterate 14 (go_big_quiet_step ((first | (go_at_call 13; (with_reducible exact late_call (KRt.out _))) | (go_at_call 14; (with_reducible exact late_call (KWi.out _))))))
          refine wpQuiet_nil ?_
          intro w8 h8'
          have h8 := late_out h8'
          have D8 := hid (below2 hbh.out h8 hbh.out.size)
          clear h8 h8' q0 q1 q2 q3
          go_wp2_with fail
          go_roundw
          case rel => exact ⟨k + 1, hkm.out, by go_num, D8.out⟩
          case measure => have := hkm.out; simp [intOf]; omega
      · have h32b : (C.l == 32) = false := by simpa using h32
        have hl := hid (show C.l < 32 by have := hok.out.l1; omega)
        clear h32
        cases Wi with
        | true =>
          go_wp2_with fail
          have q0 := fun u : Later V => u.blk BRr.out
          have q1 := fun u : Later V => (Rr.out.more u.h).at0 hlt (v := .int .u32 C.x) (by rw [hC.out]; rfl)
          have q2 := fun u : Later V => (Rr.out.more u.h).at1 hlt (v := .int .u32 C.y) (by rw [hC.out]; rfl)
          have q3 := fun u : Later V => (Rr.out.more u.h).at2 hlt (v := .int .i64 C.l) (by rw [hC.out]; rfl)
          refine wp_region_late 14 (by kernel_rfl) (by kernel_rfl) ?_
          simp only [List.take_succ_cons, List.take_zero, List.drop_succ_cons, List.drop_zero]
          iterate 14 (go_big_quiet_step ((first | (go_at_call 13; (with_reducible exact late_call (KRt.out _))) | (go_at_call 14; (with_reducible exact late_call (KWi.out _))))))
          refine wpQuiet_nil ?_
          intro w8 h8'
          have h8 := late_out h8'
          have D8 := hid (below2 hbh.out h8 hbh.out.size)
          clear h8 h8' q0 q1 q2 q3
          go_wp2_with fail
          go_roundw
          case rel => exact ⟨k + 1, hkm.out, by go_num, D8.out⟩
          case measure => have := hkm.out; simp [intOf]; omega
        | false =>
          have hnot : Hid (¬ ((n : Int) - 1 + ((metL r C).length : Int) ≤ M)) := hid (fun hle => by
            have h := hno.out
            unfold isB at h
            rw [← hWi.out] at h
            rw [decide_eq_true hl.out, decide_eq_true hle] at h
            cases h)
          go_wp2_with fail
          have q0 := fun u : Later V => u.blk BRr.out
          have q1 := fun u : Later V => (Rr.out.more u.h).at0 hlt (v := .int .u32 C.x) (by rw [hC.out]; rfl)
          have q2 := fun u : Later V => (Rr.out.more u.h).at1 hlt (v := .int .u32 C.y) (by rw [hC.out]; rfl)
          have q3 := fun u : Later V => (Rr.out.more u.h).at2 hlt (v := .int .i64 C.l) (by rw [hC.out]; rfl)
          refine wp_region_late 14 (by kernel_rfl) (by kernel_rfl) ?_
          simp only [List.take_succ_cons, List.take_zero, List.drop_succ_cons, List.drop_zero]
          iterate 14 (go_big_quiet_step ((first | (go_at_call 13; (with_reducible exact late_call (KRt.out _))) | (go_at_call 14; (with_reducible exact late_call (KWi.out _))))))
          refine wpQuiet_nil ?_
          intro w8 h8'
          have h8 := late_out h8'
          have D8 := hid (below2 hbh.out h8 hbh.out.size)
          have BR8 := hid (BRr.out.more h8)
          have R8 := hid (Rr.out.more h8)
          clear h8 h8' q0 q1 q2 q3 KWi KRt hWi hno h32b BRr Rr
          go_wp2_with fail
          go_loopw [7, 8] (fun v i wx => ∃ q : Nat, q ≤ 4 ∧ i = .int .i64 (q : Int) ∧ v = .int .i64 (((metK r C q).length : Nat) : Int) ∧ Below w8.heap.size w8 wx) (fun _ i _ => 4 - (intOf i).toNat)
          case atStart => exact ⟨0, by omega, rfl, rfl, Below.refl _ _⟩
          case round =>
            obtain ⟨q, hq, rfl, rfl, hbq⟩ := hrel
            have hbqh := hid hbq
            by_cases hq4 : q < 4
            · have hq4' : (q : Int) < 4 := by omega
              have hq4h := hid hq4
              have KK := hid (fun w => gkid_any C hok.out hl.out q w)
              obtain ⟨K, hK⟩ : ∃ K, K = kidC C q := ⟨_, rfl⟩
              have KR2 := fun w => grect_any (kidC C q) (hok.out.kid hl.out q) w
              have hms := metK_succ r C q
              rw [← hK] at KK KR2 hms
              have KM2 := fun w => meets_any K.x K.y (K.x + (pw K.l - 1)) (K.y + (pw K.l - 1)) r.a r.b r.c r.d w
              obtain ⟨Mb, hMb⟩ : ∃ b : Bool, b = mtB r K := ⟨_, rfl⟩
              have hMb' : meetsB K.x K.y (K.x + (pw K.l - 1)) (K.y + (pw K.l - 1)) r.a r.b r.c r.d = Mb := hMb.symm
              rw [hMb'] at KM2
              rw [← hMb] at hms
              clear hMb' hMb hK
              obtain ⟨X1, hX1⟩ : ∃ X, X = K.x + (pw K.l - 1) := ⟨_, rfl⟩
              obtain ⟨Y1, hY1⟩ : ∃ X, X = K.y + (pw K.l - 1) := ⟨_, rfl⟩
              rw [← hX1, ← hY1] at KR2 KM2
              clear hX1 hY1
              replace KR2 := hid KR2
              replace KM2 := hid KM2
              have hle := metK_len r C q
              have hms2 := hid hms
              obtain ⟨cz, hcz⟩ : ∃ z, z = (metK r C q).length := ⟨_, rfl⟩
              rw [← hcz] at hle ⊢
              have hcz20 : (cz : Int) ≤ 4 := by omega
              replace hcz := hid hcz
              have BRq := hid (BR8.out.more hbq)
              have Rq := hid (R8.out.more hbq)
              obtain ⟨Vq, rfl⟩ : ∃ V, V = wr := ⟨_, rfl⟩
              clear hms hle hbq hq hq4
              have q0 := fun u : Later Vq => u.blk BRq.out
              have q1 := fun u : Later Vq => (Rq.out.more u.h).at0 hlt (v := .int .u32 C.x) (by rw [hC.out]; rfl)
              have q2 := fun u : Later Vq => (Rq.out.more u.h).at1 hlt (v := .int .u32 C.y) (by rw [hC.out]; rfl)
              have q3 := fun u : Later Vq => (Rq.out.more u.h).at2 hlt (v := .int .i64 C.l) (by rw [hC.out]; rfl)
              go_wp2_with fail
              refine wp_region_late 8 (by kernel_rfl) (by kernel_rfl) ?_
              simp only [List.take_succ_cons, List.take_zero, List.drop_succ_cons, List.drop_zero]
              iterate 8 (go_big_quiet_step ((first | (go_at_call 15; (with_reducible exact late_call (KK.out _))) | (go_at_call 13; (with_reducible exact late_call (KR2.out _))) | (go_at_call 12; (with_reducible exact late_call (KM2.out _))))))
              refine wpQuiet_nil ?_
              intro w9 h9'
              have h9 := late_out h9'
              have D9 := hid (below2 hbqh.out h9 hbqh.out.size)
              clear h9 h9' q0 q1 q2 q3
              go_wp2_with fail
              refine (KM2.out _).mono ?_
              rintro e w10 ⟨rfl, hb10⟩
              have D10 := hid (below2 D9.out hb10 D9.out.size)
              clear hb10 KM2 D9
              cases Mb with
              | true =>
                have hms3 := hid (show (metK r C (q + 1)).length = cz + 1 by rw [hms2.out, if_pos rfl, List.length_append, hcz.out]; rfl)
                go_wp2_with fail
                go_roundw
                case rel => exact ⟨q + 1, hq4h.out, by go_num, by rw [hms3.out]; simp, D10.out⟩
                case measure => have := hq4h.out; simp [intOf]; omega
              | false =>
                have hms3 := hid (show (metK r C (q + 1)).length = cz by rw [hms2.out, if_neg (by simp), hcz.out])
                go_wp2_with fail
                go_roundw
                case rel => exact ⟨q + 1, hq4h.out, by go_num, by rw [hms3.out], D10.out⟩
                case measure => have := hq4h.out; simp [intOf]; omega
            · obtain rfl : q = 4 := by omega
              have D9 := hid (below2 D8.out hbq D8.out.size)
              obtain ⟨cz, hcz⟩ : ∃ z, z = (metK r C 4).length := ⟨_, rfl⟩
              have hcz4 : (cz : Int) ≤ 4 := by have := metK_len r C 4; omega
              have hd := decide_eq_false (Int.not_le.mpr hnot.out)
              have e4 : (metL r C).length = cz := hcz.symm
              rw [e4] at hd
              rw [← hcz]
              clear hbq hbqh hq hcz e4
              go_wp2_with fail
              go_roundw
              case rel => exact ⟨k + 1, hkm.out, by go_num, D9.out⟩
              case measure => have := hkm.out; simp [intOf]; omega
    · have hlt' : ¬ (k : Int) < (n : Int) := by omega
      obtain rfl : k = n := by omega
      have D7 := hid (below2 D3.out hb D3.out.size)
      clear hb hbh hk
      go_wp2_with fail
      go_ret
      exact ⟨rfl, D7.out⟩
end Go.Proofs.Ytdepmoocjnmbeaa
