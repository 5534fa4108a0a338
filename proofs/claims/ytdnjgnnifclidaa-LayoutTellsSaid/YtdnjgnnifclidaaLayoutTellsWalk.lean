/-
  The walk of LayoutTells: a theorem for each way, and the whole.
-/
import Derived.Test.YtdnjgnnifclidaaLayoutTells
namespace Go.Proofs.Ytdnjgnnifclidaa
open Go.RowKit
set_option linter.unusedVariables false

set_option maxRecDepth 100000 in
set_option maxHeartbeats 16000000 in
theorem tells_none (n z k o s ep wq wr rg t : Int) (wb : Bool)
    (OW : Hid ((decide (6 ≤ n) = false) ∨ (6 ≤ n ∧ decide (n ≤ 32) = false) ∨ (6 ≤ n ∧ n ≤ 32 ∧ decide (4 ≤ z) = false) ∨ (6 ≤ n ∧ n ≤ 32 ∧ 4 ≤ z ∧ decide (z ≤ 32) = false)))
    (ht : ep.tmod 2 = t) (RW : Hid ((t = 0 ∧ rg = 1) ∨ ((t == 0) = false ∧ (t != 0) = true ∧ rg = 5)))
    (WW : Hid ((wb = true ∧ decide (s < 9) = false ∧ decide (0 ≤ s) = false ∧ IntKind.i64.wrap (wq * z) = wq * z ∧ IntKind.i64.wrap (wq * z + wr) = s - 9 ∧ IntKind.i64.wrap (s - 9) = s - 9 ∧ 0 ≤ wr ∧ wr < z) ∨
      (wb = false ∧ wq = 0 ∧ wr = 0 ∧ s < 9) ∨ (wb = false ∧ wq = 0 ∧ wr = 0 ∧ decide (s < 9) = false ∧ 0 ≤ s)))
    (KA : Hid (∀ w : World, Calls Try.prog 29 #[geo n z, .int .i64 k, .int .i64 o] w fun e w' => e = .returned (.tuple #[.int .i64 0, .bool false]) ∧ Below w.heap.size w w'))
    (KW : Hid (∀ w : World, Calls Try.prog 30 #[geo n z, .int .i64 s] w fun e w' => e = .returned (.tuple #[.int .i64 wq, .int .i64 wr, .bool wb]) ∧ Below w.heap.size w w'))
    (KC : Hid (∀ w : World, Calls Try.prog 31 #[geo n z] w fun e w' => e = .returned (.int .i64 4) ∧ Below w.heap.size w w'))
    (KS : Hid (∀ w : World, Calls Try.prog 32 #[geo n z] w fun e w' => e = .returned (.int .i64 0) ∧ Below w.heap.size w w'))
    (KG : Hid (∀ w : World, Calls Try.prog 33 #[geo n z, .int .i64 k] w fun e w' => e = .returned (.int .i64 0) ∧ Below w.heap.size w w'))
    (KR : Hid (∀ w : World, Calls Try.prog 34 #[.int .i64 ep] w fun e w' => e = .returned (.int .i64 rg) ∧ w' = w))
    (w : World) :
    Calls Try.prog 6 #[geo n z, .int .i64 k, .int .i64 o, .int .i64 s, .int .i64 ep] w fun e w' => e = .returned (.bool true) ∧ Below w.heap.size w w' := by
  go_enter Try.func6, Try.ntmps6
  go_wp2_with fail
  refine (alive11 _).mono ?_
  rintro e w1 ⟨rfl, hb1⟩
  obtain ⟨B0, H⟩ := boxed1 hb1
  have HB0 := hid B0
  have H1 := hid H
  obtain ⟨l0, k0, f0⟩ := B0
  clear hb1 H
  go_upto_region 3 with (fail)
  go_cut [11] (fun s11 wx => s11 = .bool false ∧ wx = w1)
  case first =>
    have OW := OW.out
    rcases OW with g1 | ⟨g1, g2⟩ | ⟨g1, g2, g3⟩ | ⟨g1, g2, g3, g4⟩
    all_goals
      go_wp2_with fail
      go_meet
      case rel => exact ⟨by simp, rfl⟩
  case rest =>
    obtain ⟨rfl, rfl⟩ := hcut
    go_upto_if 96 with (fail)
    go_cut [16] (fun s16 wx => s16 = .int .i64 rg ∧ wx = wc)
    case first =>
      have RW := RW.out
      rcases RW with ⟨g, rfl⟩ | ⟨g, g', rfl⟩
      all_goals
        go_wp2_with fail
        go_meet
        case rel => exact ⟨by simp, rfl⟩
    case rest =>
      obtain ⟨rfl, rfl⟩ := hcut
      go_wp2_with fail
      refine (KA.out _).mono ?_
      rintro e w2 ⟨rfl, hb⟩
      have HB1 := hid (HB0.out.more hb)
      have H2 := hid (below2 H1.out hb H1.out.size)
      clear l0 k0 f0 HB0 H1
      obtain ⟨l0, k0, f0⟩ := HB1.out
      clear hb
      go_wp2_with fail
      refine (KW.out _).mono ?_
      rintro e w3 ⟨rfl, hb⟩
      have HB2 := hid (HB1.out.more hb)
      have H3 := hid (below2 H2.out hb H2.out.size)
      clear l0 k0 f0 HB1 H2
      obtain ⟨l0, k0, f0⟩ := HB2.out
      clear hb
      go_wp2_with fail
      refine (KC.out _).mono ?_
      rintro e w4 ⟨rfl, hb⟩
      have HB3 := hid (HB2.out.more hb)
      have H4 := hid (below2 H3.out hb H3.out.size)
      clear l0 k0 f0 HB2 H3
      obtain ⟨l0, k0, f0⟩ := HB3.out
      clear hb
      go_wp2_with fail
      refine (KS.out _).mono ?_
      rintro e w5 ⟨rfl, hb⟩
      have HB4 := hid (HB3.out.more hb)
      have H5 := hid (below2 H4.out hb H4.out.size)
      clear l0 k0 f0 HB3 H4
      obtain ⟨l0, k0, f0⟩ := HB4.out
      clear hb
      go_wp2_with fail
      refine (KG.out _).mono ?_
      rintro e w6 ⟨rfl, hb⟩
      have HB5 := hid (HB4.out.more hb)
      have H6 := hid (below2 H5.out hb H5.out.size)
      clear l0 k0 f0 HB4 H5
      obtain ⟨l0, k0, f0⟩ := HB5.out
      clear hb
      go_wp2_with fail
      refine (KR.out _).mono ?_
      rintro e w7 ⟨rfl, rfl⟩
      go_upto_region 21 with (fail)
      have WW := WW.out
      rcases WW with ⟨rfl, y1, y2, y3, y4, y5, y6, y7⟩ | ⟨rfl, rfl, rfl, y1⟩ | ⟨rfl, rfl, rfl, y1, y2⟩
      all_goals
        go_wp2
        go_ret
        exact ⟨by simp, H6.out⟩

set_option maxRecDepth 100000 in
set_option maxHeartbeats 16000000 in
theorem tells_1 (n z k o s ep wq wr rg t sc : Int) (wb : Bool)
    (a1 : 6 ≤ n) (a2 : n ≤ 32) (a3 : 4 ≤ z) (a4 : z ≤ 32) (m1 : IntKind.i64.wrap (n * z) = n * z) (m2 : IntKind.i64.wrap (9 + n * z) = sc)
    (g1 : decide (0 ≤ k) = false)
    (ht : ep.tmod 2 = t) (RW : Hid ((t = 0 ∧ rg = 1) ∨ ((t == 0) = false ∧ (t != 0) = true ∧ rg = 5)))
    (WW : Hid ((wb = true ∧ decide (s < 9) = false ∧ decide (sc ≤ s) = false ∧ IntKind.i64.wrap (wq * z) = wq * z ∧ IntKind.i64.wrap (wq * z + wr) = s - 9 ∧ IntKind.i64.wrap (s - 9) = s - 9 ∧ 0 ≤ wr ∧ wr < z) ∨
      (wb = false ∧ wq = 0 ∧ wr = 0 ∧ s < 9) ∨ (wb = false ∧ wq = 0 ∧ wr = 0 ∧ decide (s < 9) = false ∧ sc ≤ s)))
    (KA : Hid (∀ w : World, Calls Try.prog 29 #[geo n z, .int .i64 k, .int .i64 o] w fun e w' => e = .returned (.tuple #[.int .i64 0, .bool false]) ∧ Below w.heap.size w w'))
    (KW : Hid (∀ w : World, Calls Try.prog 30 #[geo n z, .int .i64 s] w fun e w' => e = .returned (.tuple #[.int .i64 wq, .int .i64 wr, .bool wb]) ∧ Below w.heap.size w w'))
    (KC : Hid (∀ w : World, Calls Try.prog 31 #[geo n z] w fun e w' => e = .returned (.int .i64 0) ∧ Below w.heap.size w w'))
    (KS : Hid (∀ w : World, Calls Try.prog 32 #[geo n z] w fun e w' => e = .returned (.int .i64 sc) ∧ Below w.heap.size w w'))
    (KG : Hid (∀ w : World, Calls Try.prog 33 #[geo n z, .int .i64 k] w fun e w' => e = .returned (.int .i64 0) ∧ Below w.heap.size w w'))
    (KR : Hid (∀ w : World, Calls Try.prog 34 #[.int .i64 ep] w fun e w' => e = .returned (.int .i64 rg) ∧ w' = w))
    (w : World) :
    Calls Try.prog 6 #[geo n z, .int .i64 k, .int .i64 o, .int .i64 s, .int .i64 ep] w fun e w' => e = .returned (.bool true) ∧ Below w.heap.size w w' := by
  go_enter Try.func6, Try.ntmps6
  go_wp2_with fail
  refine (alive11 _).mono ?_
  rintro e w1 ⟨rfl, hb1⟩
  obtain ⟨B0, H⟩ := boxed1 hb1
  have HB0 := hid B0
  have H1 := hid H
  obtain ⟨l0, k0, f0⟩ := B0
  clear hb1 H
  go_upto_if 96 with (fail)
  go_cut [16] (fun s16 wx => s16 = .int .i64 rg ∧ wx = w1)
  case first =>
    have RW := RW.out
    rcases RW with ⟨g, rfl⟩ | ⟨g, g', rfl⟩
    all_goals
      go_wp2_with fail
      go_meet
      case rel => exact ⟨by simp, rfl⟩
  case rest =>
    obtain ⟨rfl, rfl⟩ := hcut
    go_wp2_with fail
    refine (KA.out _).mono ?_
    rintro e w2 ⟨rfl, hb⟩
    have HB1 := hid (HB0.out.more hb)
    have H2 := hid (below2 H1.out hb H1.out.size)
    clear l0 k0 f0 HB0 H1
    obtain ⟨l0, k0, f0⟩ := HB1.out
    clear hb
    go_wp2_with fail
    refine (KW.out _).mono ?_
    rintro e w3 ⟨rfl, hb⟩
    have HB2 := hid (HB1.out.more hb)
    have H3 := hid (below2 H2.out hb H2.out.size)
    clear l0 k0 f0 HB1 H2
    obtain ⟨l0, k0, f0⟩ := HB2.out
    clear hb
    go_wp2_with fail
    refine (KC.out _).mono ?_
    rintro e w4 ⟨rfl, hb⟩
    have HB3 := hid (HB2.out.more hb)
    have H4 := hid (below2 H3.out hb H3.out.size)
    clear l0 k0 f0 HB2 H3
    obtain ⟨l0, k0, f0⟩ := HB3.out
    clear hb
    go_wp2_with fail
    refine (KS.out _).mono ?_
    rintro e w5 ⟨rfl, hb⟩
    have HB4 := hid (HB3.out.more hb)
    have H5 := hid (below2 H4.out hb H4.out.size)
    clear l0 k0 f0 HB3 H4
    obtain ⟨l0, k0, f0⟩ := HB4.out
    clear hb
    go_wp2_with fail
    refine (KG.out _).mono ?_
    rintro e w6 ⟨rfl, hb⟩
    have HB5 := hid (HB4.out.more hb)
    have H6 := hid (below2 H5.out hb H5.out.size)
    clear l0 k0 f0 HB4 H5
    obtain ⟨l0, k0, f0⟩ := HB5.out
    clear hb
    go_wp2_with fail
    refine (KR.out _).mono ?_
    rintro e w7 ⟨rfl, rfl⟩
    go_upto_region 21 with (fail)
    have WW := WW.out
    rcases WW with ⟨rfl, y1, y2, y3, y4, y5, y6, y7⟩ | ⟨rfl, rfl, rfl, y1⟩ | ⟨rfl, rfl, rfl, y1, y2⟩
    all_goals
      go_wp2
      go_ret
      exact ⟨by simp, H6.out⟩

set_option maxRecDepth 100000 in
set_option maxHeartbeats 16000000 in
theorem tells_2 (n z k o s ep wq wr rg t sc : Int) (wb : Bool)
    (a1 : 6 ≤ n) (a2 : n ≤ 32) (a3 : 4 ≤ z) (a4 : z ≤ 32) (m1 : IntKind.i64.wrap (n * z) = n * z) (m2 : IntKind.i64.wrap (9 + n * z) = sc)
    (g0 : 0 ≤ k) (g1 : decide (k < n) = false)
    (ht : ep.tmod 2 = t) (RW : Hid ((t = 0 ∧ rg = 1) ∨ ((t == 0) = false ∧ (t != 0) = true ∧ rg = 5)))
    (WW : Hid ((wb = true ∧ decide (s < 9) = false ∧ decide (sc ≤ s) = false ∧ IntKind.i64.wrap (wq * z) = wq * z ∧ IntKind.i64.wrap (wq * z + wr) = s - 9 ∧ IntKind.i64.wrap (s - 9) = s - 9 ∧ 0 ≤ wr ∧ wr < z) ∨
      (wb = false ∧ wq = 0 ∧ wr = 0 ∧ s < 9) ∨ (wb = false ∧ wq = 0 ∧ wr = 0 ∧ decide (s < 9) = false ∧ sc ≤ s)))
    (KA : Hid (∀ w : World, Calls Try.prog 29 #[geo n z, .int .i64 k, .int .i64 o] w fun e w' => e = .returned (.tuple #[.int .i64 0, .bool false]) ∧ Below w.heap.size w w'))
    (KW : Hid (∀ w : World, Calls Try.prog 30 #[geo n z, .int .i64 s] w fun e w' => e = .returned (.tuple #[.int .i64 wq, .int .i64 wr, .bool wb]) ∧ Below w.heap.size w w'))
    (KC : Hid (∀ w : World, Calls Try.prog 31 #[geo n z] w fun e w' => e = .returned (.int .i64 0) ∧ Below w.heap.size w w'))
    (KS : Hid (∀ w : World, Calls Try.prog 32 #[geo n z] w fun e w' => e = .returned (.int .i64 sc) ∧ Below w.heap.size w w'))
    (KG : Hid (∀ w : World, Calls Try.prog 33 #[geo n z, .int .i64 k] w fun e w' => e = .returned (.int .i64 0) ∧ Below w.heap.size w w'))
    (KR : Hid (∀ w : World, Calls Try.prog 34 #[.int .i64 ep] w fun e w' => e = .returned (.int .i64 rg) ∧ w' = w))
    (w : World) :
    Calls Try.prog 6 #[geo n z, .int .i64 k, .int .i64 o, .int .i64 s, .int .i64 ep] w fun e w' => e = .returned (.bool true) ∧ Below w.heap.size w w' := by
  go_enter Try.func6, Try.ntmps6
  go_wp2_with fail
  refine (alive11 _).mono ?_
  rintro e w1 ⟨rfl, hb1⟩
  obtain ⟨B0, H⟩ := boxed1 hb1
  have HB0 := hid B0
  have H1 := hid H
  obtain ⟨l0, k0, f0⟩ := B0
  clear hb1 H
  go_upto_if 96 with (fail)
  go_cut [16] (fun s16 wx => s16 = .int .i64 rg ∧ wx = w1)
  case first =>
    have RW := RW.out
    rcases RW with ⟨g, rfl⟩ | ⟨g, g', rfl⟩
    all_goals
      go_wp2_with fail
      go_meet
      case rel => exact ⟨by simp, rfl⟩
  case rest =>
    obtain ⟨rfl, rfl⟩ := hcut
    go_wp2_with fail
    refine (KA.out _).mono ?_
    rintro e w2 ⟨rfl, hb⟩
    have HB1 := hid (HB0.out.more hb)
    have H2 := hid (below2 H1.out hb H1.out.size)
    clear l0 k0 f0 HB0 H1
    obtain ⟨l0, k0, f0⟩ := HB1.out
    clear hb
    go_wp2_with fail
    refine (KW.out _).mono ?_
    rintro e w3 ⟨rfl, hb⟩
    have HB2 := hid (HB1.out.more hb)
    have H3 := hid (below2 H2.out hb H2.out.size)
    clear l0 k0 f0 HB1 H2
    obtain ⟨l0, k0, f0⟩ := HB2.out
    clear hb
    go_wp2_with fail
    refine (KC.out _).mono ?_
    rintro e w4 ⟨rfl, hb⟩
    have HB3 := hid (HB2.out.more hb)
    have H4 := hid (below2 H3.out hb H3.out.size)
    clear l0 k0 f0 HB2 H3
    obtain ⟨l0, k0, f0⟩ := HB3.out
    clear hb
    go_wp2_with fail
    refine (KS.out _).mono ?_
    rintro e w5 ⟨rfl, hb⟩
    have HB4 := hid (HB3.out.more hb)
    have H5 := hid (below2 H4.out hb H4.out.size)
    clear l0 k0 f0 HB3 H4
    obtain ⟨l0, k0, f0⟩ := HB4.out
    clear hb
    go_wp2_with fail
    refine (KG.out _).mono ?_
    rintro e w6 ⟨rfl, hb⟩
    have HB5 := hid (HB4.out.more hb)
    have H6 := hid (below2 H5.out hb H5.out.size)
    clear l0 k0 f0 HB4 H5
    obtain ⟨l0, k0, f0⟩ := HB5.out
    clear hb
    go_wp2_with fail
    refine (KR.out _).mono ?_
    rintro e w7 ⟨rfl, rfl⟩
    go_upto_region 21 with (fail)
    have WW := WW.out
    rcases WW with ⟨rfl, y1, y2, y3, y4, y5, y6, y7⟩ | ⟨rfl, rfl, rfl, y1⟩ | ⟨rfl, rfl, rfl, y1, y2⟩
    all_goals
      go_wp2
      go_ret
      exact ⟨by simp, H6.out⟩

set_option maxRecDepth 100000 in
set_option maxHeartbeats 16000000 in
theorem tells_3 (n z k o s ep wq wr rg t sg sc : Int) (wb : Bool)
    (a1 : 6 ≤ n) (a2 : n ≤ 32) (a3 : 4 ≤ z) (a4 : z ≤ 32) (m1 : IntKind.i64.wrap (n * z) = n * z) (m2 : IntKind.i64.wrap (9 + n * z) = sc)
    (g0 : 0 ≤ k) (g1 : k < n) (g2 : decide (0 ≤ o) = false) (p1 : IntKind.i64.wrap (k * z) = k * z) (p2 : IntKind.i64.wrap (9 + k * z) = sg)
    (ht : ep.tmod 2 = t) (RW : Hid ((t = 0 ∧ rg = 1) ∨ ((t == 0) = false ∧ (t != 0) = true ∧ rg = 5)))
    (WW : Hid ((wb = true ∧ decide (s < 9) = false ∧ decide (sc ≤ s) = false ∧ IntKind.i64.wrap (wq * z) = wq * z ∧ IntKind.i64.wrap (wq * z + wr) = s - 9 ∧ IntKind.i64.wrap (s - 9) = s - 9 ∧ 0 ≤ wr ∧ wr < z) ∨
      (wb = false ∧ wq = 0 ∧ wr = 0 ∧ s < 9) ∨ (wb = false ∧ wq = 0 ∧ wr = 0 ∧ decide (s < 9) = false ∧ sc ≤ s)))
    (KA : Hid (∀ w : World, Calls Try.prog 29 #[geo n z, .int .i64 k, .int .i64 o] w fun e w' => e = .returned (.tuple #[.int .i64 0, .bool false]) ∧ Below w.heap.size w w'))
    (KW : Hid (∀ w : World, Calls Try.prog 30 #[geo n z, .int .i64 s] w fun e w' => e = .returned (.tuple #[.int .i64 wq, .int .i64 wr, .bool wb]) ∧ Below w.heap.size w w'))
    (KC : Hid (∀ w : World, Calls Try.prog 31 #[geo n z] w fun e w' => e = .returned (.int .i64 0) ∧ Below w.heap.size w w'))
    (KS : Hid (∀ w : World, Calls Try.prog 32 #[geo n z] w fun e w' => e = .returned (.int .i64 sc) ∧ Below w.heap.size w w'))
    (KG : Hid (∀ w : World, Calls Try.prog 33 #[geo n z, .int .i64 k] w fun e w' => e = .returned (.int .i64 sg) ∧ Below w.heap.size w w'))
    (KR : Hid (∀ w : World, Calls Try.prog 34 #[.int .i64 ep] w fun e w' => e = .returned (.int .i64 rg) ∧ w' = w))
    (w : World) :
    Calls Try.prog 6 #[geo n z, .int .i64 k, .int .i64 o, .int .i64 s, .int .i64 ep] w fun e w' => e = .returned (.bool true) ∧ Below w.heap.size w w' := by
  go_enter Try.func6, Try.ntmps6
  go_wp2_with fail
  refine (alive11 _).mono ?_
  rintro e w1 ⟨rfl, hb1⟩
  obtain ⟨B0, H⟩ := boxed1 hb1
  have HB0 := hid B0
  have H1 := hid H
  obtain ⟨l0, k0, f0⟩ := B0
  clear hb1 H
  go_upto_if 96 with (fail)
  go_cut [16] (fun s16 wx => s16 = .int .i64 rg ∧ wx = w1)
  case first =>
    have RW := RW.out
    rcases RW with ⟨g, rfl⟩ | ⟨g, g', rfl⟩
    all_goals
      go_wp2_with fail
      go_meet
      case rel => exact ⟨by simp, rfl⟩
  case rest =>
    obtain ⟨rfl, rfl⟩ := hcut
    go_wp2_with fail
    refine (KA.out _).mono ?_
    rintro e w2 ⟨rfl, hb⟩
    have HB1 := hid (HB0.out.more hb)
    have H2 := hid (below2 H1.out hb H1.out.size)
    clear l0 k0 f0 HB0 H1
    obtain ⟨l0, k0, f0⟩ := HB1.out
    clear hb
    go_wp2_with fail
    refine (KW.out _).mono ?_
    rintro e w3 ⟨rfl, hb⟩
    have HB2 := hid (HB1.out.more hb)
    have H3 := hid (below2 H2.out hb H2.out.size)
    clear l0 k0 f0 HB1 H2
    obtain ⟨l0, k0, f0⟩ := HB2.out
    clear hb
    go_wp2_with fail
    refine (KC.out _).mono ?_
    rintro e w4 ⟨rfl, hb⟩
    have HB3 := hid (HB2.out.more hb)
    have H4 := hid (below2 H3.out hb H3.out.size)
    clear l0 k0 f0 HB2 H3
    obtain ⟨l0, k0, f0⟩ := HB3.out
    clear hb
    go_wp2_with fail
    refine (KS.out _).mono ?_
    rintro e w5 ⟨rfl, hb⟩
    have HB4 := hid (HB3.out.more hb)
    have H5 := hid (below2 H4.out hb H4.out.size)
    clear l0 k0 f0 HB3 H4
    obtain ⟨l0, k0, f0⟩ := HB4.out
    clear hb
    go_wp2_with fail
    refine (KG.out _).mono ?_
    rintro e w6 ⟨rfl, hb⟩
    have HB5 := hid (HB4.out.more hb)
    have H6 := hid (below2 H5.out hb H5.out.size)
    clear l0 k0 f0 HB4 H5
    obtain ⟨l0, k0, f0⟩ := HB5.out
    clear hb
    go_wp2_with fail
    refine (KR.out _).mono ?_
    rintro e w7 ⟨rfl, rfl⟩
    go_upto_region 21 with (fail)
    have WW := WW.out
    rcases WW with ⟨rfl, y1, y2, y3, y4, y5, y6, y7⟩ | ⟨rfl, rfl, rfl, y1⟩ | ⟨rfl, rfl, rfl, y1, y2⟩
    all_goals
      go_wp2
      go_ret
      exact ⟨by simp, H6.out⟩

set_option maxRecDepth 100000 in
set_option maxHeartbeats 16000000 in
theorem tells_4 (n z k o s ep wq wr rg t sg sc : Int) (wb : Bool)
    (a1 : 6 ≤ n) (a2 : n ≤ 32) (a3 : 4 ≤ z) (a4 : z ≤ 32) (m1 : IntKind.i64.wrap (n * z) = n * z) (m2 : IntKind.i64.wrap (9 + n * z) = sc)
    (g0 : 0 ≤ k) (g1 : k < n) (g2 : 0 ≤ o) (g3 : decide (o < z) = false) (p1 : IntKind.i64.wrap (k * z) = k * z) (p2 : IntKind.i64.wrap (9 + k * z) = sg)
    (ht : ep.tmod 2 = t) (RW : Hid ((t = 0 ∧ rg = 1) ∨ ((t == 0) = false ∧ (t != 0) = true ∧ rg = 5)))
    (WW : Hid ((wb = true ∧ decide (s < 9) = false ∧ decide (sc ≤ s) = false ∧ IntKind.i64.wrap (wq * z) = wq * z ∧ IntKind.i64.wrap (wq * z + wr) = s - 9 ∧ IntKind.i64.wrap (s - 9) = s - 9 ∧ 0 ≤ wr ∧ wr < z) ∨
      (wb = false ∧ wq = 0 ∧ wr = 0 ∧ s < 9) ∨ (wb = false ∧ wq = 0 ∧ wr = 0 ∧ decide (s < 9) = false ∧ sc ≤ s)))
    (KA : Hid (∀ w : World, Calls Try.prog 29 #[geo n z, .int .i64 k, .int .i64 o] w fun e w' => e = .returned (.tuple #[.int .i64 0, .bool false]) ∧ Below w.heap.size w w'))
    (KW : Hid (∀ w : World, Calls Try.prog 30 #[geo n z, .int .i64 s] w fun e w' => e = .returned (.tuple #[.int .i64 wq, .int .i64 wr, .bool wb]) ∧ Below w.heap.size w w'))
    (KC : Hid (∀ w : World, Calls Try.prog 31 #[geo n z] w fun e w' => e = .returned (.int .i64 0) ∧ Below w.heap.size w w'))
    (KS : Hid (∀ w : World, Calls Try.prog 32 #[geo n z] w fun e w' => e = .returned (.int .i64 sc) ∧ Below w.heap.size w w'))
    (KG : Hid (∀ w : World, Calls Try.prog 33 #[geo n z, .int .i64 k] w fun e w' => e = .returned (.int .i64 sg) ∧ Below w.heap.size w w'))
    (KR : Hid (∀ w : World, Calls Try.prog 34 #[.int .i64 ep] w fun e w' => e = .returned (.int .i64 rg) ∧ w' = w))
    (w : World) :
    Calls Try.prog 6 #[geo n z, .int .i64 k, .int .i64 o, .int .i64 s, .int .i64 ep] w fun e w' => e = .returned (.bool true) ∧ Below w.heap.size w w' := by
  go_enter Try.func6, Try.ntmps6
  go_wp2_with fail
  refine (alive11 _).mono ?_
  rintro e w1 ⟨rfl, hb1⟩
  obtain ⟨B0, H⟩ := boxed1 hb1
  have HB0 := hid B0
  have H1 := hid H
  obtain ⟨l0, k0, f0⟩ := B0
  clear hb1 H
  go_upto_if 96 with (fail)
  go_cut [16] (fun s16 wx => s16 = .int .i64 rg ∧ wx = w1)
  case first =>
    have RW := RW.out
    rcases RW with ⟨g, rfl⟩ | ⟨g, g', rfl⟩
    all_goals
      go_wp2_with fail
      go_meet
      case rel => exact ⟨by simp, rfl⟩
  case rest =>
    obtain ⟨rfl, rfl⟩ := hcut
    go_wp2_with fail
    refine (KA.out _).mono ?_
    rintro e w2 ⟨rfl, hb⟩
    have HB1 := hid (HB0.out.more hb)
    have H2 := hid (below2 H1.out hb H1.out.size)
    clear l0 k0 f0 HB0 H1
    obtain ⟨l0, k0, f0⟩ := HB1.out
    clear hb
    go_wp2_with fail
    refine (KW.out _).mono ?_
    rintro e w3 ⟨rfl, hb⟩
    have HB2 := hid (HB1.out.more hb)
    have H3 := hid (below2 H2.out hb H2.out.size)
    clear l0 k0 f0 HB1 H2
    obtain ⟨l0, k0, f0⟩ := HB2.out
    clear hb
    go_wp2_with fail
    refine (KC.out _).mono ?_
    rintro e w4 ⟨rfl, hb⟩
    have HB3 := hid (HB2.out.more hb)
    have H4 := hid (below2 H3.out hb H3.out.size)
    clear l0 k0 f0 HB2 H3
    obtain ⟨l0, k0, f0⟩ := HB3.out
    clear hb
    go_wp2_with fail
    refine (KS.out _).mono ?_
    rintro e w5 ⟨rfl, hb⟩
    have HB4 := hid (HB3.out.more hb)
    have H5 := hid (below2 H4.out hb H4.out.size)
    clear l0 k0 f0 HB3 H4
    obtain ⟨l0, k0, f0⟩ := HB4.out
    clear hb
    go_wp2_with fail
    refine (KG.out _).mono ?_
    rintro e w6 ⟨rfl, hb⟩
    have HB5 := hid (HB4.out.more hb)
    have H6 := hid (below2 H5.out hb H5.out.size)
    clear l0 k0 f0 HB4 H5
    obtain ⟨l0, k0, f0⟩ := HB5.out
    clear hb
    go_wp2_with fail
    refine (KR.out _).mono ?_
    rintro e w7 ⟨rfl, rfl⟩
    go_upto_region 21 with (fail)
    have WW := WW.out
    rcases WW with ⟨rfl, y1, y2, y3, y4, y5, y6, y7⟩ | ⟨rfl, rfl, rfl, y1⟩ | ⟨rfl, rfl, rfl, y1, y2⟩
    all_goals
      go_wp2
      go_ret
      exact ⟨by simp, H6.out⟩

set_option maxRecDepth 100000 in
set_option maxHeartbeats 16000000 in
theorem tells_5 (n z k o s ep wq wr rg t ad sg sc : Int) (wb : Bool)
    (a1 : 6 ≤ n) (a2 : n ≤ 32) (a3 : 4 ≤ z) (a4 : z ≤ 32) (m1 : IntKind.i64.wrap (n * z) = n * z) (m2 : IntKind.i64.wrap (9 + n * z) = sc)
    (g0 : 0 ≤ k) (g1 : k < n) (g2 : 0 ≤ o) (g3 : o < z) (p3 : IntKind.i64.wrap (sg + o) = ad) (p1 : IntKind.i64.wrap (k * z) = k * z) (p2 : IntKind.i64.wrap (9 + k * z) = sg)
    (ht : ep.tmod 2 = t) (RW : Hid ((t = 0 ∧ rg = 1) ∨ ((t == 0) = false ∧ (t != 0) = true ∧ rg = 5)))
    (WW : Hid ((wb = true ∧ decide (s < 9) = false ∧ decide (sc ≤ s) = false ∧ IntKind.i64.wrap (wq * z) = wq * z ∧ IntKind.i64.wrap (wq * z + wr) = s - 9 ∧ IntKind.i64.wrap (s - 9) = s - 9 ∧ 0 ≤ wr ∧ wr < z) ∨
      (wb = false ∧ wq = 0 ∧ wr = 0 ∧ s < 9) ∨ (wb = false ∧ wq = 0 ∧ wr = 0 ∧ decide (s < 9) = false ∧ sc ≤ s)))
    (KA : Hid (∀ w : World, Calls Try.prog 29 #[geo n z, .int .i64 k, .int .i64 o] w fun e w' => e = .returned (.tuple #[.int .i64 ad, .bool true]) ∧ Below w.heap.size w w'))
    (KW : Hid (∀ w : World, Calls Try.prog 30 #[geo n z, .int .i64 s] w fun e w' => e = .returned (.tuple #[.int .i64 wq, .int .i64 wr, .bool wb]) ∧ Below w.heap.size w w'))
    (KC : Hid (∀ w : World, Calls Try.prog 31 #[geo n z] w fun e w' => e = .returned (.int .i64 0) ∧ Below w.heap.size w w'))
    (KS : Hid (∀ w : World, Calls Try.prog 32 #[geo n z] w fun e w' => e = .returned (.int .i64 sc) ∧ Below w.heap.size w w'))
    (KG : Hid (∀ w : World, Calls Try.prog 33 #[geo n z, .int .i64 k] w fun e w' => e = .returned (.int .i64 sg) ∧ Below w.heap.size w w'))
    (KR : Hid (∀ w : World, Calls Try.prog 34 #[.int .i64 ep] w fun e w' => e = .returned (.int .i64 rg) ∧ w' = w))
    (w : World) :
    Calls Try.prog 6 #[geo n z, .int .i64 k, .int .i64 o, .int .i64 s, .int .i64 ep] w fun e w' => e = .returned (.bool true) ∧ Below w.heap.size w w' := by
  go_enter Try.func6, Try.ntmps6
  go_wp2_with fail
  refine (alive11 _).mono ?_
  rintro e w1 ⟨rfl, hb1⟩
  obtain ⟨B0, H⟩ := boxed1 hb1
  have HB0 := hid B0
  have H1 := hid H
  obtain ⟨l0, k0, f0⟩ := B0
  clear hb1 H
  go_upto_if 96 with (fail)
  go_cut [16] (fun s16 wx => s16 = .int .i64 rg ∧ wx = w1)
  case first =>
    have RW := RW.out
    rcases RW with ⟨g, rfl⟩ | ⟨g, g', rfl⟩
    all_goals
      go_wp2_with fail
      go_meet
      case rel => exact ⟨by simp, rfl⟩
  case rest =>
    obtain ⟨rfl, rfl⟩ := hcut
    go_wp2_with fail
    refine (KA.out _).mono ?_
    rintro e w2 ⟨rfl, hb⟩
    have HB1 := hid (HB0.out.more hb)
    have H2 := hid (below2 H1.out hb H1.out.size)
    clear l0 k0 f0 HB0 H1
    obtain ⟨l0, k0, f0⟩ := HB1.out
    clear hb
    go_wp2_with fail
    refine (KW.out _).mono ?_
    rintro e w3 ⟨rfl, hb⟩
    have HB2 := hid (HB1.out.more hb)
    have H3 := hid (below2 H2.out hb H2.out.size)
    clear l0 k0 f0 HB1 H2
    obtain ⟨l0, k0, f0⟩ := HB2.out
    clear hb
    go_wp2_with fail
    refine (KC.out _).mono ?_
    rintro e w4 ⟨rfl, hb⟩
    have HB3 := hid (HB2.out.more hb)
    have H4 := hid (below2 H3.out hb H3.out.size)
    clear l0 k0 f0 HB2 H3
    obtain ⟨l0, k0, f0⟩ := HB3.out
    clear hb
    go_wp2_with fail
    refine (KS.out _).mono ?_
    rintro e w5 ⟨rfl, hb⟩
    have HB4 := hid (HB3.out.more hb)
    have H5 := hid (below2 H4.out hb H4.out.size)
    clear l0 k0 f0 HB3 H4
    obtain ⟨l0, k0, f0⟩ := HB4.out
    clear hb
    go_wp2_with fail
    refine (KG.out _).mono ?_
    rintro e w6 ⟨rfl, hb⟩
    have HB5 := hid (HB4.out.more hb)
    have H6 := hid (below2 H5.out hb H5.out.size)
    clear l0 k0 f0 HB4 H5
    obtain ⟨l0, k0, f0⟩ := HB5.out
    clear hb
    go_wp2_with fail
    refine (KR.out _).mono ?_
    rintro e w7 ⟨rfl, rfl⟩
    go_upto_region 21 with (fail)
    have WW := WW.out
    rcases WW with ⟨rfl, y1, y2, y3, y4, y5, y6, y7⟩ | ⟨rfl, rfl, rfl, y1⟩ | ⟨rfl, rfl, rfl, y1, y2⟩
    all_goals
      go_wp2
      go_ret
      exact ⟨by simp, H6.out⟩


set_option maxRecDepth 100000 in
theorem layoutTells (n z k o s ep : Int) (w : World) :
    Calls Try.prog 6 #[geo n z, .int .i64 k, .int .i64 o, .int .i64 s, .int .i64 ep] w fun e w' => e = .returned (.bool true) ∧ Below w.heap.size w w' := by
  have KA := hid (fun w => address_any n z k o w)
  have KW := hid (fun w => where_any n z s w)
  have KC := fun w => check_any n z w
  have KS := hid (fun w => sectors_any n z w)
  have KG := hid (fun w => segment_any n z k w)
  have KR := hid (fun w => region_any ep w)
  have WW := hid (where_ways n z s)
  have RW : Hid ((ep.tmod 2 = 0 ∧ regI ep = 1) ∨ ((ep.tmod 2 == 0) = false ∧ (ep.tmod 2 != 0) = true ∧ regI ep = 5)) := by
    refine hid ?_
    unfold regI
    by_cases h : ep.tmod 2 = 0
    · exact .inl ⟨h, if_pos h⟩
    · exact .inr ⟨by simpa using h, by simpa using h, if_neg h⟩
  cases h : okB n z
  · have e0 : chkI n z = 4 := by unfold chkI; rw [h]; rfl
    have h1 : segB n z k = false := by unfold segB; rw [h]; rfl
    have h2 : adB n z k o = false := by unfold adB; rw [h1]; rfl
    have h3 : secI n z = 0 := by unfold secI; rw [h]; rfl
    have h4 : segI n z k = 0 := by unfold segI; rw [h1]; rfl
    have h5 : adI n z k o = 0 := by unfold adI; rw [h2]; rfl
    have OW := ok_ways2 n z
    rw [h] at OW
    simp only [Bool.false_eq_true, false_and, true_and, false_or] at OW
    rw [e0] at KC
    rw [h2, h5] at KA
    rw [h3] at KS WW
    rw [h4] at KG
    exact tells_none n z k o s ep _ _ _ _ _ (hid OW) rfl RW WW KA KW (hid KC) KS KG KR w
  · have e0 : chkI n z = 0 := by unfold chkI; rw [h]; rfl
    rw [e0] at KC
    have q := ok_true h
    have b := mul_in (k := n) (z := z) (by omega) (by omega) (by omega) (by omega)
    have e : secI n z = 9 + n * z := by unfold secI; rw [h]; rfl
    have m1 : IntKind.i64.wrap (n * z) = n * z := IntWalk.i64_in _ (by omega)
    have m2 : IntKind.i64.wrap (9 + n * z) = secI n z := by rw [e]; exact IntWalk.i64_in _ (by omega)
    rcases place_ways n z k o h with ⟨g1, h2, h5, h4⟩ | ⟨g0, g1, h2, h5, h4⟩ | ⟨g0, g1, g2, h2, h5, p1, p2⟩ | ⟨g0, g1, g2, g3, h2, h5, p1, p2⟩ | ⟨g0, g1, g2, g3, h2, p3, p1, p2⟩
    · rw [h2, h5] at KA
      rw [h4] at KG
      exact tells_1 n z k o s ep _ _ _ _ _ _ q.1 q.2.1 q.2.2.1 q.2.2.2 m1 m2 g1 rfl RW WW KA KW (hid KC) KS KG KR w
    · rw [h2, h5] at KA
      rw [h4] at KG
      exact tells_2 n z k o s ep _ _ _ _ _ _ q.1 q.2.1 q.2.2.1 q.2.2.2 m1 m2 g0 g1 rfl RW WW KA KW (hid KC) KS KG KR w
    · rw [h2, h5] at KA
      exact tells_3 n z k o s ep _ _ _ _ _ _ _ q.1 q.2.1 q.2.2.1 q.2.2.2 m1 m2 g0 g1 g2 p1 p2 rfl RW WW KA KW (hid KC) KS KG KR w
    · rw [h2, h5] at KA
      exact tells_4 n z k o s ep _ _ _ _ _ _ _ q.1 q.2.1 q.2.2.1 q.2.2.2 m1 m2 g0 g1 g2 g3 p1 p2 rfl RW WW KA KW (hid KC) KS KG KR w
    · rw [h2] at KA
      exact tells_5 n z k o s ep _ _ _ _ _ _ _ _ q.1 q.2.1 q.2.2.1 q.2.2.2 m1 m2 g0 g1 g2 g3 p3 p1 p2 rfl RW WW KA KW (hid KC) KS KG KR w
end Go.Proofs.Ytdnjgnnifclidaa
