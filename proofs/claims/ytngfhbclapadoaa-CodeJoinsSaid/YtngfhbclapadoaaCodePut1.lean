/-
  Package code: a step's octets are written.
-/
import Derived.Test.YtngfhbclapadoaaCodeCheck
import Derived.Test.YtngfhbclapadoaaOutBeside
namespace Go.Proofs.Ytngfhbclapadoaa
open Go.RowKit
set_option linter.unusedVariables false
set_option linter.unusedSimpArgs false

@[go_sem high] theorem index_w0 (a0 a1 a2 a3 : Int) (w : World) : (Instr.index 95 (.agg #[.int .u32 a0, .int .u32 a1, .int .u32 a2, .int .u32 a3]) (.int .i64 0)).run Try.prog w = .ok (.int .u32 a0) w := by
  first | kernel_rfl | rfl
@[go_sem high] theorem index_w1 (a0 a1 a2 a3 : Int) (w : World) : (Instr.index 95 (.agg #[.int .u32 a0, .int .u32 a1, .int .u32 a2, .int .u32 a3]) (.int .i64 1)).run Try.prog w = .ok (.int .u32 a1) w := by
  first | kernel_rfl | rfl
@[go_sem high] theorem index_w2 (a0 a1 a2 a3 : Int) (w : World) : (Instr.index 95 (.agg #[.int .u32 a0, .int .u32 a1, .int .u32 a2, .int .u32 a3]) (.int .i64 2)).run Try.prog w = .ok (.int .u32 a2) w := by
  first | kernel_rfl | rfl
@[go_sem high] theorem index_w3 (a0 a1 a2 a3 : Int) (w : World) : (Instr.index 95 (.agg #[.int .u32 a0, .int .u32 a1, .int .u32 a2, .int .u32 a3]) (.int .i64 3)).run Try.prog w = .ok (.int .u32 a3) w := by
  first | kernel_rfl | rfl

set_option maxRecDepth 100000 in
set_option maxHeartbeats 8000000 in
theorem put1_any (s : Sp) (hs : s.ok) (hz : spCk s = 0) (w0 w : World) (l : List UInt8) (hW : WS w0 w0.heap.size 65536 w l) (hT : s.there w0) (hr : l.length + (stepO s).length ≤ 65536) :
    Calls Try.prog 33 #[at' w0.heap.size, spval s] w fun e w' => e = .returned (.tuple #[]) ∧ WS w0 w0.heap.size 65536 w' (l ++ stepO s) := by
  obtain ⟨k1, k2, a1, a2, hF, d1, f1⟩ := spCk_zero hz
  rw [stepO_length] at hr
  have x0 := hs.x0
  have x9 := hs.x9
  have y0 := hs.y0
  have y9 := hs.y9
  have x10 := hs.x10
  have x19 := hs.x19
  have y10 := hs.y10
  have y19 := hs.y19
  have hR0 : Hid (RowP w0 s.q 1 s.f.length (fun i => [.int .i64 (faAt s.f i)])) := hid hT
  have hFk := hid (fun k hk => fateB_of hF k hk)
  have hFt := hid (fun k hk => fateO_take s.f k hk)
  have hF0 : Hid (fateO (s.f.take 0) = []) := hid (by simp [fateO])
  have hF9 : Hid (fateO (s.f.take s.f.length) = fateO s.f) := hid (by rw [List.take_length])
  have hFl : Hid (∀ k, k ≤ s.f.length → (fateO (s.f.take k)).length = 2 * k) := hid (fun k hk => by rw [fateO_length, List.length_take, Nat.min_eq_left hk])
  have B0 := OB.new hW (sparr s) 49
  obtain ⟨Z, hZ⟩ : ∃ Z, stepO s = Z := ⟨_, rfl⟩
  have hZ2 := hZ
  unfold stepO at hZ2
  rw [hZ]
  obtain ⟨A1, e1⟩ : ∃ A, l ++ leB s.k.toNat 1 = A := ⟨_, rfl⟩
  obtain ⟨A2, e2⟩ : ∃ A, A1 ++ leB s.a.toNat 4 = A := ⟨_, rfl⟩
  obtain ⟨A3, e3⟩ : ∃ A, A2 ++ leB s.x.toNat 4 = A := ⟨_, rfl⟩
  obtain ⟨A4, e4⟩ : ∃ A, A3 ++ leB s.y.toNat 4 = A := ⟨_, rfl⟩
  obtain ⟨A5, e5⟩ : ∃ A, A4 ++ leB s.x1.toNat 4 = A := ⟨_, rfl⟩
  obtain ⟨A6, e6⟩ : ∃ A, A5 ++ leB s.y1.toNat 4 = A := ⟨_, rfl⟩
  obtain ⟨A7, e7⟩ : ∃ A, A6 ++ leB (s.d.size : Int).toNat 1 = A := ⟨_, rfl⟩
  obtain ⟨A8, e8⟩ : ∃ A, A7 ++ s.d.data.toList = A := ⟨_, rfl⟩
  obtain ⟨A9, e9⟩ : ∃ A, A8 ++ leB (s.f.length : Int).toNat 1 = A := ⟨_, rfl⟩
  have l1 : A1.length = l.length + 1 := by rw [← e1]; simp [leB_length]
  have l2 : A2.length = l.length + 5 := by rw [← e2, List.length_append, l1, leB_length]
  have l3 : A3.length = l.length + 9 := by rw [← e3, List.length_append, l2, leB_length]
  have l4 : A4.length = l.length + 13 := by rw [← e4, List.length_append, l3, leB_length]
  have l5 : A5.length = l.length + 17 := by rw [← e5, List.length_append, l4, leB_length]
  have l6 : A6.length = l.length + 21 := by rw [← e6, List.length_append, l5, leB_length]
  have l7 : A7.length = l.length + 22 := by rw [← e7, List.length_append, l6, leB_length]
  have l8 : A8.length = l.length + 22 + s.d.size := by rw [← e8, List.length_append, l7, size_list]
  have l9 : A9.length = l.length + 23 + s.d.size := by rw [← e9, List.length_append, l8, leB_length]; omega
  have hend : Hid (A9 ++ fateO s.f = l ++ Z) := hid (by
    rw [← e9, ← e8, ← e7, ← e6, ← e5, ← e4, ← e3, ← e2, ← e1, ← hZ2]
    simp only [Int.toNat_natCast, List.append_assoc])
  replace e1 := hid e1
  replace e2 := hid e2
  replace e3 := hid e3
  replace e4 := hid e4
  replace e5 := hid e5
  replace e6 := hid e6
  replace e7 := hid e7
  replace e8 := hid e8
  replace e9 := hid e9
  have u1 : IntKind.i64.wrap s.x = s.x := IntWalk.i64_in _ (by omega)
  have u2 : IntKind.i64.wrap s.y = s.y := IntWalk.i64_in _ (by omega)
  have u3 : IntKind.i64.wrap s.x1 = s.x1 := IntWalk.i64_in _ (by omega)
  have u4 : IntKind.i64.wrap s.y1 = s.y1 := IntWalk.i64_in _ (by omega)
  clear hs hz hT hF hZ hZ2 hW
  obtain ⟨sk, sa, sx, sy, sx1, sy1, sd, sq, sfc, sf⟩ := s
  dsimp only [spval, sparr] at *
  generalize hP : w0.heap.size = P at *
  replace hP := hid hP
  have HX := hid B0.blk
  have K := hid (ob_num B0 (by omega) (by omega) sk 1 1 rfl (by omega) (by omega) (by omega))
  clear B0
  obtain ⟨lx, kx, fx⟩ := HX.out
  go_enter Try.func33, Try.ntmps33
  go_wp2_with fail
  refine K.out.mono ?_
  rintro e w2 ⟨rfl, B2⟩
  rw [e1.out] at B2
  clear K lx kx fx HX
  have HX := hid B2.blk
  have K := hid (ob_num B2 (by omega) (by omega) sa 4 4 rfl (by omega) (by omega) (by omega))
  obtain ⟨lx, kx, fx⟩ := HX.out
  clear B2
  go_wp2_with fail
  refine K.out.mono ?_
  rintro e w3 ⟨rfl, B3⟩
  rw [e2.out] at B3
  clear K lx kx fx HX
  have HX := hid B3.blk
  replace B3 := hid B3
  obtain ⟨lx, kx, fx⟩ := HX.out
  go_wp2_with fail
  clear lx kx fx HX
  go_loopw [25] (fun i wx => (i = .int .i64 0 ∧ OB w0 P 65536 w.heap.size #[.int .i64 sk, .int .i64 sa, .int .u32 sx, .int .u32 sy, .int .u32 sx1, .int .u32 sy1, .string sd, .slice sq sf.length sfc] wx A2) ∨ (i = .int .i64 1 ∧ OB w0 P 65536 w.heap.size #[.int .i64 sk, .int .i64 sa, .int .u32 sx, .int .u32 sy, .int .u32 sx1, .int .u32 sy1, .string sd, .slice sq sf.length sfc] wx A3) ∨ (i = .int .i64 2 ∧ OB w0 P 65536 w.heap.size #[.int .i64 sk, .int .i64 sa, .int .u32 sx, .int .u32 sy, .int .u32 sx1, .int .u32 sy1, .string sd, .slice sq sf.length sfc] wx A4) ∨ (i = .int .i64 3 ∧ OB w0 P 65536 w.heap.size #[.int .i64 sk, .int .i64 sa, .int .u32 sx, .int .u32 sy, .int .u32 sx1, .int .u32 sy1, .string sd, .slice sq sf.length sfc] wx A5) ∨ (i = .int .i64 4 ∧ OB w0 P 65536 w.heap.size #[.int .i64 sk, .int .i64 sa, .int .u32 sx, .int .u32 sy, .int .u32 sx1, .int .u32 sy1, .string sd, .slice sq sf.length sfc] wx A6)) (fun i _ => 4 - (intOf i).toNat)
  case atStart => exact .inl ⟨rfl, B3.out⟩
  case round =>
    clear B3
    rcases hrel with ⟨rfl, B⟩ | ⟨rfl, B⟩ | ⟨rfl, B⟩ | ⟨rfl, B⟩ | ⟨rfl, B⟩
    · have K := hid (ob_num B (by omega) (by omega) sx 4 4 rfl x0 (by omega) (by omega))
      clear B
      go_wp2_with fail
      refine K.out.mono ?_
      rintro e w5 ⟨rfl, B5⟩
      rw [e3.out] at B5
      replace B5 := hid B5
      clear K
      go_wp2_with fail
      go_roundw
      case rel => exact .inr (.inl ⟨by go_num, B5.out⟩)
      case measure => simp [intOf]
    · have K := hid (ob_num B (by omega) (by omega) sy 4 4 rfl y0 (by omega) (by omega))
      clear B
      go_wp2_with fail
      refine K.out.mono ?_
      rintro e w5 ⟨rfl, B5⟩
      rw [e4.out] at B5
      replace B5 := hid B5
      clear K
      go_wp2_with fail
      go_roundw
      case rel => exact .inr (.inr (.inl ⟨by go_num, B5.out⟩))
      case measure => simp [intOf]
    · have K := hid (ob_num B (by omega) (by omega) sx1 4 4 rfl x10 (by omega) (by omega))
      clear B
      go_wp2_with fail
      refine K.out.mono ?_
      rintro e w5 ⟨rfl, B5⟩
      rw [e5.out] at B5
      replace B5 := hid B5
      clear K
      go_wp2_with fail
      go_roundw
      case rel => exact .inr (.inr (.inr (.inl ⟨by go_num, B5.out⟩)))
      case measure => simp [intOf]
    · have K := hid (ob_num B (by omega) (by omega) sy1 4 4 rfl y10 (by omega) (by omega))
      clear B
      go_wp2_with fail
      refine K.out.mono ?_
      rintro e w5 ⟨rfl, B5⟩
      rw [e6.out] at B5
      replace B5 := hid B5
      clear K
      go_wp2_with fail
      go_roundw
      case rel => exact .inr (.inr (.inr (.inr ⟨by go_num, B5.out⟩)))
      case measure => simp [intOf]
    · have HX := hid B.blk
      have K := hid (ob_num B (by omega) (by omega) sd.size 1 1 rfl (by omega) (by omega) (by omega))
      obtain ⟨lx, kx, fx⟩ := HX.out
      clear B
      go_wp2_with fail
      refine K.out.mono ?_
      rintro e w6 ⟨rfl, B6⟩
      rw [e7.out] at B6
      clear K lx kx fx HX
      have HX := hid B6.blk
      have K := hid (ob_text B6 (by omega) (by omega) sd (by omega))
      obtain ⟨lx, kx, fx⟩ := HX.out
      clear B6
      go_wp2_with fail
      refine K.out.mono ?_
      rintro e w7 ⟨rfl, B7⟩
      rw [e8.out] at B7
      clear K lx kx fx HX
      have HX := hid B7.blk
      have K := hid (ob_num B7 (by omega) (by omega) sf.length 1 1 rfl (by omega) (by omega) (by omega))
      obtain ⟨lx, kx, fx⟩ := HX.out
      clear B7
      go_wp2_with fail
      refine K.out.mono ?_
      rintro e w8 ⟨rfl, B8⟩
      rw [e9.out] at B8
      clear K lx kx fx HX
      have HX := hid B8.blk
      have W8 := hid B8.ws
      obtain ⟨lx, kx, fx⟩ := HX.out
      clear B8
      go_wp2_with fail
      clear lx kx fx HX
      generalize hn : sf.length = n at *
      clear hn
      go_loopw [50, 7] (fun i z5 wx => ∃ q : Nat, q ≤ n ∧ i = .int .i64 (q : Int) ∧ WS w0 P 65536 wx (A9 ++ fateO (sf.take q))) (fun i _ _ => n - (intOf i).toNat)
      case atStart => exact ⟨0, by omega, rfl, by rw [hF0.out, List.append_nil]; exact W8.out⟩
      case round =>
        clear W8
        obtain ⟨q, hq, rfl, hW⟩ := hrel
        by_cases hlt : q < n
        · have hbw := hW.below
          rw [← hP.out] at hbw
          obtain ⟨b, o, rfl, R0⟩ := hR0.out.row (by omega)
          have R := R0.more hbw
          have z0 := R.at0 hlt (v := .int .i64 (faAt sf q)) rfl
          rw [Nat.mul_one] at z0
          have hz := hFk.out q hlt
          have hst := hid (hFt.out q hlt)
          have hl := hFl.out q hq
          have K := hid (ws_num hW (by omega) (by omega) (faAt sf q) 2 2 rfl hz.1 (by omega) (by rw [List.length_append, hl]; omega))
          clear hbw R R0 hl hz hW
          go_wp2_with fail
          refine K.out.mono ?_
          rintro e w9 ⟨rfl, W9⟩
          rw [List.append_assoc, ← hst.out] at W9
          replace W9 := hid W9
          clear K
          go_wp2_with fail
          go_roundw
          case rel => exact ⟨q + 1, by omega, by go_num, W9.out⟩
          case measure => simp [intOf]; omega
        · obtain rfl : q = n := by omega
          rw [hF9.out, hend.out] at hW
          replace hW := hid hW
          go_wp2
          go_end0
          exact ⟨rfl, hW.out⟩
end Go.Proofs.Ytngfhbclapadoaa
