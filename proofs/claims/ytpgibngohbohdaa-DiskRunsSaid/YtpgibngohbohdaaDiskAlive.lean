/-
  The law's own small check of a disk: alive.
-/
import Derived.Test.YtpgibngohbohdaaDiskNew
import Derived.Test.YtpgibngohbohdaaDiskPower
import Derived.Test.YtpgibngohbohdaaDiskSettle0
namespace Go.Proofs.Ytpgibngohbohdaa
open Go.RowKit Go.Maps
set_option linter.unusedVariables false
set_option linter.unusedSimpArgs false

theorem settle_none (m : DM) (b : Nat) (K : Nat → Prop) (w : World) (D : DiskM w b m K) (fp : Option Addr) (fc : Nat) (Fs : List Int) (RF : RowOf fatT w fp Fs) (hl2 : Fs.length ≤ maxLen) (h0 : min m.Qs.length Fs.length = 0) :
    Calls Try.prog 63 #[.pointer (some ⟨b, 0, none⟩), .slice fp Fs.length fc] w fun e w' => e = .returned (.tuple #[]) ∧ DiskM w' b m.clean K ∧ Sole K w w' := callsIn_wide.1 (settle_none_in m b K w D fp fc Fs RF hl2 h0)
theorem kbelow {K : Nat → Prop} {B : Nat} {w w' : World} (h : Sole K w w') (hB : B ≤ w.heap.size) (hK : ∀ k, K k → B ≤ k) : Below B w w' := h.below hB hK

theorem seven_octs (t : TypeId) (n : Nat) (w : World) : Octs (w.alloc (.cells ((madeCells #[.int .u8 0] n).setIfInBounds 0 (.int .u8 7)) t)) (some ⟨w.heap.size, 0, none⟩) ((zerosN n).set 0 7) := by
  refine .inr ⟨_, _, rfl, by simp, fun i hi => ?_⟩
  have h := (Blk.new w ((madeCells #[.int .u8 0] n).setIfInBounds 0 (.int .u8 7)) t).cell (0 + i)
  rw [h, Nat.zero_add]
  have hi' : i < n := by rw [List.length_set, zerosN_len] at hi; exact hi
  rcases i with _ | i
  · rw [Array.getElem?_setIfInBounds_self_of_lt (by rw [size_madeCells]; exact hi')]
    simp
  · rw [Array.getElem?_setIfInBounds_ne (by omega)]
    simp [madeCells, zerosN, hi', Nat.mod_one]
set_option maxRecDepth 100000 in
set_option maxHeartbeats 4000000 in
theorem alive14 (w : World) : Calls Try.prog 7 #[] w fun e w' => e = .returned (.bool true) ∧ Below w.heap.size w w' := by
  have KN := hid (dnew_any 2 w)
  have mk : ∀ w, (Instr.makeSlice 35 (.int .i64 256) (.int .i64 256)).run Try.prog w = .ok (.slice (some ⟨w.heap.size, 0, none⟩) 256 256) (w.alloc (.cells (madeCells #[.int .u8 0] 256) 5)) := fun w => run_zeros 256 (by omega) w
  go_enter Try.func7, Try.ntmps7
  go_wp2_with fail
  refine KN.out.mono ?_
  rintro e w1 ⟨L, rfl, D1, N1, hb1⟩
  rw [show sectorsN 2 = 2 from rfl] at D1 N1
  have hs1 := hb1.size
  have B2 := Blk.new w1 (madeCells #[.int .u8 0] 256) 5
  have hb2 : Below w1.heap.size w1 (w1.alloc (.cells (madeCells #[.int .u8 0] 256) 5)) := (Below.refl _ _).alloc (Nat.le_refl _) _
  have D1h := hid D1
  have N1h := hid N1
  have O2 := made_octs 5 256 w1
  have c0 : (w1.alloc (.cells (madeCells #[.int .u8 0] 256) 5)).cell? ⟨w1.heap.size, 0, none⟩ = some (.int .u8 0) := by
    obtain ⟨b', o', e, hlt, hc⟩ := O2.row (by intro h; have := congrArg List.length h; rw [zerosN_len] at this; simp at this)
    cases e
    have := hc 0 (by rw [zerosN_len]; omega)
    simpa [zerosN] using this
  have f0 := B2.frz 0
  have hb2h := hid hb2
  have hb1h := hid hb1
  have O2h := hid O2
  clear D1 N1 KN hb1 hb2 B2 O2
  have O7 := seven_octs 5 256 w1
  have hb7 : Below w1.heap.size w1 (w1.alloc (.cells ((madeCells #[.int .u8 0] 256).setIfInBounds 0 (.int .u8 7)) 5)) := (Below.refl _ _).alloc (Nat.le_refl _) _
  have hs7 : (w1.alloc (.cells ((madeCells #[.int .u8 0] 256).setIfInBounds 0 (.int .u8 7)) 5)).heap.size = w1.heap.size + 1 := by simp
  have hl7 : ((zerosN 256).set 0 7).length = 256 := by rw [List.length_set, zerosN_len]
  have D2 := D1h.out.more hb7
  have KW := hid (write_any (G := fun _ _ w1 w' => w' = w1) (newM w.heap.size 2 L) (w.heap.size + 3) 1 _ _ D2 (⟨some ⟨w1.heap.size, 0, none⟩, 256, (zerosN 256).set 0 7⟩ : OcS) ⟨O7, by rw [hl7]; exact Nat.le_refl _, by show 256 ≤ maxLen; unfold maxLen; omega⟩ (fun b' o e hk => by cases e; omega) hl7 (by decide) (by omega)
    (by rw [N1h.out.S]; omega) rfl (by rw [N1h.out.n]; omega) (by rw [N1h.out.Q]; exact Nat.zero_le _) (fun y q c w1 K1 Dx => goz_off _ _ _ Dx.blk rfl))
  have E7 := hid (hb1h.out.trans (hb7.mono hs1))
  clear hb7 hl7 O7 D2 hb2h O2h
  go_wp2_with fail
  generalize w1.alloc (.cells ((madeCells #[.int .u8 0] 256).setIfInBounds 0 (.int .u8 7)) 5) = W2 at *
  refine KW.out.mono ?_
  rintro e w3 ⟨rfl, y, q, c, w3', K1, hyl, D3, S3, hK3, hw3⟩
  rw [hw3]
  clear hw3 w3 KW
  have hK : ∀ k, K1 k → w.heap.size ≤ k := fun k hk => by rcases hK3 k hk with r | r; exact r.1; omega
  have E3 := hid (E7.out.trans (S3.below (B := w.heap.size) E7.out.size (fun k hk => hk.1)))
  have KP := hid (power_on (G := fun m2 K2 w2 => m2 = (((newM w.heap.size 2 L).after.wrote 1 y q c).counted).clean ∧ K2 = K1 ∧ Sole K1 w3' w2) _ _ K1 w3' D3 rfl none 0 0
    ((settle_none _ _ K1 w3' D3 none 0 [] (.inl rfl) (Nat.zero_le _) (by simp)).mono fun e w2 ⟨he, Dc, Sc⟩ => ⟨he, _, K1, Dc, rfl, rfl, Sc⟩))
  clear D3 S3 hK3
  go_wp2_with fail
  refine KP.out.mono ?_
  rintro e w5 ⟨rfl, m2, K2, w4, D5, S5, D4, rfl, rfl, S4⟩
  have S45 : Sole K2 w3' w5 := S4.trans (S5.mono fun k _ e => e ▸ D4.kk _ (.inl rfl))
  have E5 := hid (E3.out.trans (S45.below (B := w.heap.size) E3.out.size hK))
  have KR := hid (read_any _ _ 1 (by decide) K2 w5 D5 rfl)
  have hNS := hid (show ((newM w.heap.size 2 L).Ls.length = 2) from N1h.out.S)
  have hNZ := hid N1h.out.Z
  clear D5 S5 D4 S4 S45 KP N1h D1h
  go_wp2_with fail
  refine KR.out.mono ?_
  rintro e w6 ⟨hin, _, D6, S6⟩
  obtain ⟨v, rfl, a6, c6, hv, O6⟩ := hin ⟨by omega, by show (1 : Int) < ((newM w.heap.size 2 L).Ls.length : Int); rw [hNS.out]; omega⟩
  have E6 := hid (E5.out.trans (S6.below (B := w.heap.size) E5.out.size hK))
  have hcl : (DM.cur ((((newM w.heap.size 2 L).after.wrote 1 y q c).counted).clean.reset) 1).l = zerosN 256 := by
    show (ocA L 1).l = _
    exact hNZ.out _ (ocA_mem L 1 (by have : L.length = 2 := hNS.out; omega))
  rw [hcl] at hv O6
  have hr6 := (Octs.of_own O6).row (by intro h; have := congrArg List.length h; rw [zerosN_len] at this; simp at this)
  obtain ⟨b6, o6, rfl, hlt6, hc6⟩ := hr6
  have d6 : w6.cell? ⟨b6, o6, none⟩ = some (.int .u8 0) := by
    have := hc6 0 (by rw [zerosN_len]; omega)
    simpa [zerosN] using this
  rw [zerosN_len] at hv
  subst hv
  clear hin D6 S6 O6 hc6 hcl KR
  go_wp2_with fail
  go_ret
  exact ⟨rfl, E6.out⟩
end Go.Proofs.Ytpgibngohbohdaa
